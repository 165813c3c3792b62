/- Part 04 -/
import Derived.Test.YtclgbmmambkiaaaGreatDoorMb03
import Derived.Deep.RegionHeld3
set_option maxRecDepth 100000
set_option maxHeartbeats 4000000
set_option linter.unusedVariables false
set_option linter.unusedSimpArgs false
namespace Go.Proofs.YtclgbmmambkiaaaGreatDoor
open Go.RowKit
theorem zn1(b:Nat)(la:Option Addr)(lc:Nat)(L:List RT)(toks:List Lx.Tok)(len:Int)(hL:RtOf L toks len)(ex:List Lx.Tok→Sx.Res Sx.Ex)(q:Nat)(yC : ∀(q':Nat) (W:World),q<q'→Rd W b la lc L q'→q'≤toks.length→Calls Tryz.prog 43 #[.pointer (some ⟨b,0,none⟩)] W (zaf ExAt b la lc L toks len (ex (toks.drop q')) q' W))
  (w:World)(h:Rd w b la lc L q)(hq:q≤toks.length)(M0:Sx.Res Sx.Ex)(HM:Hid (M0=Sx.fnE ex (toks.drop q))) :
  Calls Tryz.prog 90 #[.pointer (some ⟨b,0,none⟩)] w (zaf ExAt b la lc L toks len M0 q w):=by
 have jp:(⟨#[102,110]⟩:ByteArray).toList=Sx.wFn:=qyw [102,110];have sM:(⟨#[61,62]⟩:ByteArray).toList=Sx.gives:=qyw [61,62];have HL:=qya jp;have cx:=qya sM;clear jp sM;have HM:Hid (M0=(Sx.take Sx.wFn (toks.drop q)).bind fun _ r=>(Sx.zag 2 r).bind fun x r=>(Sx.take Sx.gives r).bind fun _ r=>(ex r).map fun b=>.mk 5 0 [] x [b] []):=HM;have hb:=h.blk.lt;have qQ:=h.glt (by rw [hL];simp;omega);have O0:Old w (w.alloc (.cells #[.int .i64 0,.int .i64 0,.string ⟨#[]⟩,.string ⟨#[]⟩,.slice none 0 0,.slice none 0 0] 32)):=(Old.refl w).alloc _;have qD:=Blk.new w #[.int .i64 0,.int .i64 0,.string ⟨#[]⟩,.string ⟨#[]⟩,.slice none 0 0,.slice none 0 0] 32;have h0:=h.old O0;obtain⟨qp,qr⟩ : ∃qp,w.alloc (.cells #[.int .i64 0,.int .i64 0,.string ⟨#[]⟩,.string ⟨#[]⟩,.slice none 0 0,.slice none 0 0] 32)=qp:=⟨_,rfl⟩;have qw:qp.heap.size=w.heap.size+1:=by rw [← qr];simp
 rw [qr] at O0 qD h0;have vh:=qya qr;have qi:=qya qw;clear qr qw
 go_enter Tryz.func90,Tryz.ntmps90
 go_wp2_with fail
 rw [vh.out]
 (with_reducible refine (zbq qp b la lc L toks len hL q h0 hq ⟨#[102,110]⟩ Sx.wFn HL.out (by decide)).mono ?_)
 rintro e w1 ⟨f1,hp⟩;cases hres:Sx.take Sx.wFn (toks.drop q) with
 | bad rest=>
  rw [hres] at hp;have hp:e=panS (zah len rest):=hp;subst hp;have HR:=qya hres;clear hres;go_wp2;refine⟨rfl,Fr.trans (Old.but O0 b) f1,?_⟩;rw [HM.out,HR.out]
  try rfl
 | ok ww rest=>
  rw [hres] at hp;obtain⟨_,rfl,rfl,qq,xK,h1⟩:=hp;have HM:Hid (M0=(Sx.zag 2 (toks.drop (q+1))).bind fun x r=>(Sx.take Sx.gives r).bind fun _ r=>(ex r).map fun b=>.mk 5 0 [] x [b] []):=qya (by rw [HM.out,hres,qq];try rfl);clear hres qq
  go_wp2_with fail
  (with_reducible refine (zh3 w1 b la lc L toks len hL (q+1) h1 xK).mono ?_)
  rintro e w2 ⟨f2,hp⟩;cases hres:Sx.zag 2 (toks.drop (q+1)) with
  | bad rest=>
   rw [hres] at hp;have hp:e=panS (zah len rest):=hp;subst hp;have HR:=qya hres;clear hres;go_wp2;refine⟨rfl,Fr.trans (Old.but O0 b) (Fr.trans f1 f2),?_⟩;rw [HM.out,HR.out]
   try rfl
  | ok zQ rest=>
   rw [hres] at hp;obtain⟨_,rfl,⟨s,rfl,hs⟩,qq,xw,h2⟩:=hp;have HM:Hid (M0=(Sx.take Sx.gives (toks.drop (q+1+1))).bind fun _ r=>(ex r).map fun b=>.mk 5 0 [] zQ [b] []):=qya (by rw [HM.out,hres,qq];try rfl);clear hres qq;have HS:=qya hs;clear hs
   go_wp2_with fail
   (with_reducible refine (zbq w2 b la lc L toks len hL (q+1+1) h2 xw ⟨#[61,62]⟩ Sx.gives cx.out (by decide)).mono ?_)
   rintro e w3 ⟨f3,hp⟩;cases hres:Sx.take Sx.gives (toks.drop (q+1+1)) with
   | bad rest=>
    rw [hres] at hp;have hp:e=panS (zah len rest):=hp;subst hp;have HR:=qya hres;clear hres;go_wp2;refine⟨rfl,Fr.trans (Old.but O0 b) (Fr.trans f1 (Fr.trans f2 f3)),?_⟩;rw [HM.out,HR.out]
    try rfl
   | ok vC rest=>
    rw [hres] at hp;obtain⟨_,rfl,rfl,qq,uU,h3⟩:=hp;have HM:Hid (M0=(ex (toks.drop (q+1+1+1))).map fun b=>.mk 5 0 [] zQ [b] []):=qya (by rw [HM.out,hres,qq];try rfl);clear hres qq
    go_wp2_with fail
    (with_reducible refine (yC (q+1+1+1) w3 (by omega) h3 uU).mono ?_)
    rintro e w4 ⟨f4,hp⟩;cases hres:ex (toks.drop (q+1+1+1)) with
    | bad rest=>
     rw [hres] at hp;have hp:e=panS (zah len rest):=hp;subst hp;have HR:=qya hres;clear hres;go_wp2;refine⟨rfl,Fr.trans (Old.but O0 b) (Fr.trans f1 (Fr.trans f2 (Fr.trans f3 f4))),?_⟩;rw [HM.out,HR.out]
     try rfl
    | ok xy rest=>
     rw [hres] at hp;obtain⟨v4,q4,rfl,qq,yD,ks,h4,uk⟩:=hp;have HM:Hid (M0=.ok (.mk 5 0 [] zQ [xy] []) (toks.drop q4)):=qya (by rw [HM.out,hres,qq];try rfl);clear hres qq;obtain⟨jo,jr,jl,jV,ji,je,jt,ja,jm,jZ,rfl⟩:=uk.parts;have yk:But b qp w4:=Fr.trans f1 (Fr.trans f2 (Fr.trans f3 f4));have z04:=yk.size;have z03:=(Fr.trans f1 (Fr.trans f2 f3)).size;have qw:=qi.out;have xn:=qD.keep yk (by omega);obtain⟨vM,kp,kr,kJ,ko,ki⟩:=xn.c6;obtain⟨kq,kn,ke,xk,xv,xz⟩:=xn.f6;have qJ:=xn.lt;have kV:=Blk.new w4 #[.int .i64 jo,.int .i64 jr,.string jl,.string jV,.slice ji je jt,.slice ja jm jZ] 32;obtain⟨v0,v1,v2,v3,v4,v5⟩:=kV.c6;clear qw;go_wp2;obtain⟨W',qv,S2,k3,zD⟩:=xn.put6 (.int .i64 5) (.int .i64 0) (.string ⟨#[]⟩) (.string s) (.slice (some ⟨w4.heap.size+1,0,none⟩) 1 1) (.slice none 0 0);rw [qv];clear qv;have gF:Blk (((W').alloc (.cells #[.int .i64 jo,.int .i64 jr,.string jl,.string jV,.slice ji je jt,.slice ja jm jZ] 32)).alloc (.cells #[.int .i64 jo,.int .i64 jr,.string jl,.string jV,.slice ji je jt,.slice ja jm jZ] 32)) (w4.heap.size) #[.int .i64 jo,.int .i64 jr,.string jl,.string jV,.slice ji je jt,.slice ja jm jZ] 32:=(Blk.new' (by simp [qyd,zD]) _ _).alloc (.cells #[.int .i64 jo,.int .i64 jr,.string jl,.string jV,.slice ji je jt,.slice ja jm jZ] 32);have bj:Blk (((W').alloc (.cells #[.int .i64 jo,.int .i64 jr,.string jl,.string jV,.slice ji je jt,.slice ja jm jZ] 32)).alloc (.cells #[.int .i64 jo,.int .i64 jr,.string jl,.string jV,.slice ji je jt,.slice ja jm jZ] 32)) (w4.heap.size+1) #[.int .i64 jo,.int .i64 jr,.string jl,.string jV,.slice ji je jt,.slice ja jm jZ] 32:=(Blk.new' (by simp [qyd,zD]) _ _);have OF:Old W' (((W').alloc (.cells #[.int .i64 jo,.int .i64 jr,.string jl,.string jV,.slice ji je jt,.slice ja jm jZ] 32)).alloc (.cells #[.int .i64 jo,.int .i64 jr,.string jl,.string jV,.slice ji je jt,.slice ja jm jZ] 32)):=(((Old.refl W').alloc _).alloc _);have k4:=k3.keep OF (fun e=>e);obtain⟨Wf,yw⟩ : ∃Wf,((W').alloc (.cells #[.int .i64 jo,.int .i64 jr,.string jl,.string jV,.slice ji je jt,.slice ja jm jZ] 32)).alloc (.cells #[.int .i64 jo,.int .i64 jr,.string jl,.string jV,.slice ji je jt,.slice ja jm jZ] 32)=Wf:=⟨_,rfl⟩;rw [yw] at gF bj OF k4 ⊢;clear yw;obtain⟨qP,qC,qA,jv,jz,jj⟩:=k4.c6;refine bodyPost_ret (v:=.agg #[.int .i64 5,.int .i64 0,.string ⟨#[]⟩,.string s,.slice (some ⟨w4.heap.size+1,0,none⟩) 1 1,.slice none 0 0]) (by simp [results,Tryz.results90,go_sem,qP,qC,qA,jv,jz,jj]) rfl ?_;have S3:Fr (fun k=>k=w.heap.size) w4 Wf:=Fr.trans' S2 OF (fun _ _ e=>False.elim e);have qw:=qi.out;have z3:=S3.size;have cZ:=bj.lt;refine⟨(Fr.trans (Old.but O0 b) yk).trans' S3 (fun k hk e=>by omega),?_⟩;rw [HM.out];refine⟨_,q4,rfl,rfl,by omega,ks,h4.keep S3 (by omega) (fun g hg=>by have:=qQ g hg;omega),?_⟩;rw [ExAt];refine⟨_,[.int .i64 jo,.int .i64 jr,.string jl,.string jV,.slice ji je jt,.slice ja jm jZ],_,[],by rw [← HS.out,zcf];rfl,RowAt.full bj rfl (show 1≤maxLen by decide) ⟨by omega,cZ⟩,ExsAt.one (ExAt.more (fun k hk=>⟨by omega,qyc hk.2 z3⟩) _ _ (uk.keep S3 (fun k hk e=>by omega))),RowAt.none _ _ _ _,by rw [PasAt]⟩
def zzb(w:World)(F:Nat→Prop)(p:List UInt8×Sx.Ex)(v:Value):Prop:=∃(s:ByteArray) (ev:Value),v=.tuple #[.string s,ev]∧s.toList=p.1∧ExAt w F p.2 ev
def FunAt(w:World)(F:Nat→Prop)(p:Sx.Fun)(v:Value):Prop:=∃(s t:ByteArray) (a0 a1 a2 a3 a4 a5:Value),v=.agg #[.string s,.string t,a0,a1,a2,a3,a4,a5]∧s.toList=p.name∧t.toList=p.arg∧ExAt w F p.body (.agg #[a0,a1,a2,a3,a4,a5])
theorem zd9(b:Nat)(la:Option Addr)(lc:Nat)(L:List RT)(toks:List Lx.Tok)(len:Int)(hL:RtOf L toks len)(ex:List Lx.Tok→Sx.Res Sx.Ex)(q:Nat)(yC : ∀(q':Nat) (W:World),q<q'→Rd W b la lc L q'→q'≤toks.length→Calls Tryz.prog 43 #[.pointer (some ⟨b,0,none⟩)] W (zaf ExAt b la lc L toks len (ex (toks.drop q')) q' W))
  (w:World)(h:Rd w b la lc L q)(hq:q≤toks.length)(M0:Sx.Res (List UInt8×Sx.Ex))(HM:Hid (M0=Sx.zhq ex (toks.drop q))) :
  Calls Tryz.prog 148 #[.pointer (some ⟨b,0,none⟩)] w (zaf zzb b la lc L toks len M0 q w):=by
 have jp:(⟨#[61]⟩:ByteArray).toList=[61]:=qyw [61];have HL:=qya jp;clear jp;have HM:Hid (M0=(Sx.zag 2 (toks.drop q)).bind fun n r=>(Sx.take [61] r).bind fun _ r=>(ex r).map fun b=>(n,b)):=HM;have hb:=h.blk.lt;have qQ:=h.glt (by rw [hL];simp;omega);have O0:Old w (w.alloc (.cells #[.int .i64 0,.int .i64 0,.string ⟨#[]⟩,.string ⟨#[]⟩,.slice none 0 0,.slice none 0 0] 32)):=(Old.refl w).alloc _;have qD:=Blk.new w #[.int .i64 0,.int .i64 0,.string ⟨#[]⟩,.string ⟨#[]⟩,.slice none 0 0,.slice none 0 0] 32;have h0:=h.old O0;obtain⟨qp,qr⟩ : ∃qp,w.alloc (.cells #[.int .i64 0,.int .i64 0,.string ⟨#[]⟩,.string ⟨#[]⟩,.slice none 0 0,.slice none 0 0] 32)=qp:=⟨_,rfl⟩;have qw:qp.heap.size=w.heap.size+1:=by rw [← qr];simp
 rw [qr] at O0 qD h0;have vh:=qya qr;have qi:=qya qw;clear qr qw
 go_enter Tryz.func148,Tryz.ntmps148
 go_wp2_with fail
 rw [vh.out]
 (with_reducible refine (zh3 qp b la lc L toks len hL q h0 hq).mono ?_)
 rintro e w1 ⟨f1,hp⟩;cases hres:Sx.zag 2 (toks.drop q) with
 | bad rest=>
  rw [hres] at hp;have hp:e=panS (zah len rest):=hp;subst hp;have HR:=qya hres;clear hres;go_wp2;refine⟨rfl,Fr.trans (Old.but O0 b) f1,?_⟩;rw [HM.out,HR.out]
  try rfl
 | ok ww rest=>
  rw [hres] at hp;obtain⟨_,rfl,⟨s,rfl,hs⟩,qq,xK,h1⟩:=hp;have HM:Hid (M0=(Sx.take [61] (toks.drop (q+1))).bind fun _ r=>(ex r).map fun b=>(ww,b)):=qya (by rw [HM.out,hres,qq];try rfl);clear hres qq;have HS:=qya hs;clear hs
  go_wp2_with fail
  (with_reducible refine (zbq w1 b la lc L toks len hL (q+1) h1 xK ⟨#[61]⟩ [61] HL.out (by decide)).mono ?_)
  rintro e w2 ⟨f2,hp⟩;cases hres:Sx.take [61] (toks.drop (q+1)) with
  | bad rest=>
   rw [hres] at hp;have hp:e=panS (zah len rest):=hp;subst hp;have HR:=qya hres;clear hres;go_wp2;refine⟨rfl,Fr.trans (Old.but O0 b) (Fr.trans f1 f2),?_⟩;rw [HM.out,HR.out]
   try rfl
  | ok zQ rest=>
   rw [hres] at hp;obtain⟨_,rfl,rfl,qq,xw,h2⟩:=hp;have HM:Hid (M0=(ex (toks.drop (q+1+1))).map fun b=>(ww,b)):=qya (by rw [HM.out,hres,qq];try rfl);clear hres qq
   go_wp2_with fail
   (with_reducible refine (yC (q+1+1) w2 (by omega) h2 xw).mono ?_)
   rintro e w4 ⟨f4,hp⟩;cases hres:ex (toks.drop (q+1+1)) with
   | bad rest=>
    rw [hres] at hp;have hp:e=panS (zah len rest):=hp;subst hp;have HR:=qya hres;clear hres;go_wp2;refine⟨rfl,Fr.trans (Old.but O0 b) (Fr.trans f1 (Fr.trans f2 f4)),?_⟩;rw [HM.out,HR.out]
    try rfl
   | ok xy rest=>
    rw [hres] at hp;obtain⟨v4,q4,rfl,qq,yD,ks,h4,uk⟩:=hp;have HM:Hid (M0=.ok (ww,xy) (toks.drop q4)):=qya (by rw [HM.out,hres,qq];try rfl);clear hres qq;obtain⟨jo,jr,jl,jV,ji,je,jt,ja,jm,jZ,rfl⟩:=uk.parts;have yk:But b qp w4:=Fr.trans f1 (Fr.trans f2 f4);have z04:=yk.size;have z03:=(Fr.trans f1 f2).size;have qw:=qi.out;have xn:=qD.keep yk (by omega);obtain⟨vM,kp,kr,kJ,ko,ki⟩:=xn.c6;obtain⟨kq,kn,ke,xk,xv,xz⟩:=xn.f6;have qJ:=xn.lt;clear qw;go_wp2;obtain⟨Wf,qv,S2,k3,zD⟩:=xn.put6 (.int .i64 jo) (.int .i64 jr) (.string jl) (.string jV) (.slice ji je jt) (.slice ja jm jZ);rw [qv];clear qv;obtain⟨qP,qC,qA,jv,jz,jj⟩:=k3.c6;refine bodyPost_ret (v:=.tuple #[.string s,.agg #[.int .i64 jo,.int .i64 jr,.string jl,.string jV,.slice ji je jt,.slice ja jm jZ]]) (by simp [results,Tryz.results148,go_sem,qP,qC,qA,jv,jz,jj]) rfl ?_;have S3:=S2;have qw:=qi.out;have z3:=S3.size;refine⟨(Fr.trans (Old.but O0 b) yk).trans' S3 (fun k hk e=>by omega),?_⟩;rw [HM.out];exact⟨_,q4,rfl,rfl,by omega,ks,h4.keep S3 (by omega) (fun g hg=>by have:=qQ g hg;omega),s,_,rfl,HS.out,ExAt.more (fun k hk=>⟨by omega,qyc hk.2 z3⟩) _ _ (uk.keep S3 (fun k hk e=>by omega))⟩
theorem zun(b:Nat)(la:Option Addr)(lc:Nat)(L:List RT)(toks:List Lx.Tok)(len:Int)(hL:RtOf L toks len)(ex:List Lx.Tok→Sx.Res Sx.Ex)(q:Nat)(yC : ∀(q':Nat) (W:World),q<q'→Rd W b la lc L q'→q'≤toks.length→Calls Tryz.prog 43 #[.pointer (some ⟨b,0,none⟩)] W (zaf ExAt b la lc L toks len (ex (toks.drop q')) q' W))
  (w:World)(h:Rd w b la lc L q)(hq:q≤toks.length)(M0:Sx.Res Sx.Fun)(HM:Hid (M0=Sx.funE ex (toks.drop q))) :
  Calls Tryz.prog 150 #[.pointer (some ⟨b,0,none⟩)] w (zaf FunAt b la lc L toks len M0 q w):=by
 have HM:Hid (M0=(Sx.zag 2 (toks.drop q)).bind fun n r=>(Sx.zhq ex r).map fun x=>⟨n,x.1,x.2⟩):=HM;have hb:=h.blk.lt;have qQ:=h.glt (by rw [hL];simp;omega);have O0:Old w (w.alloc (.cells #[.string ⟨#[]⟩,.string ⟨#[]⟩,.int .i64 0,.int .i64 0,.string ⟨#[]⟩,.string ⟨#[]⟩,.slice none 0 0,.slice none 0 0] 144)):=(Old.refl w).alloc _;have qD:=Blk.new w #[.string ⟨#[]⟩,.string ⟨#[]⟩,.int .i64 0,.int .i64 0,.string ⟨#[]⟩,.string ⟨#[]⟩,.slice none 0 0,.slice none 0 0] 144;have h0:=h.old O0;obtain⟨qp,qr⟩ : ∃qp,w.alloc (.cells #[.string ⟨#[]⟩,.string ⟨#[]⟩,.int .i64 0,.int .i64 0,.string ⟨#[]⟩,.string ⟨#[]⟩,.slice none 0 0,.slice none 0 0] 144)=qp:=⟨_,rfl⟩;have qw:qp.heap.size=w.heap.size+1:=by rw [← qr];simp
 rw [qr] at O0 qD h0;have vh:=qya qr;have qi:=qya qw;clear qr qw
 go_enter Tryz.func150,Tryz.ntmps150
 go_wp2_with fail
 rw [vh.out]
 (with_reducible refine (zh3 qp b la lc L toks len hL q h0 hq).mono ?_)
 rintro e w1 ⟨f1,hp⟩;cases hres:Sx.zag 2 (toks.drop q) with
 | bad rest=>
  rw [hres] at hp;have hp:e=panS (zah len rest):=hp;subst hp;have HR:=qya hres;clear hres;go_wp2;refine⟨rfl,Fr.trans (Old.but O0 b) f1,?_⟩;rw [HM.out,HR.out]
  try rfl
 | ok ww rest=>
  rw [hres] at hp;obtain⟨_,rfl,⟨s,rfl,hs⟩,qq,xK,h1⟩:=hp;have HM:Hid (M0=(Sx.zhq ex (toks.drop (q+1))).map fun x=>⟨ww,x.1,x.2⟩):=qya (by rw [HM.out,hres,qq];try rfl);clear hres qq;have HS:=qya hs;clear hs
  go_wp2_with fail
  (with_reducible refine (zd9 b la lc L toks len hL ex (q+1) (fun q' W hl hr jq=>yC q' W (by omega) hr jq) w1 h1 xK _ (qya rfl)).mono ?_)
  rintro e w4 ⟨f4,hp⟩;cases hres:Sx.zhq ex (toks.drop (q+1)) with
  | bad rest=>
   rw [hres] at hp;have hp:e=panS (zah len rest):=hp;subst hp;have HR:=qya hres;clear hres;go_wp2;refine⟨rfl,Fr.trans (Old.but O0 b) (Fr.trans f1 f4),?_⟩;rw [HM.out,HR.out]
   try rfl
  | ok xy rest=>
   rw [hres] at hp;obtain⟨v4,q4,rfl,qq,yD,ks,h4,s4,ev4,rfl,hs4,uk⟩:=hp;have HM:Hid (M0=.ok ⟨ww,xy.1,xy.2⟩ (toks.drop q4)):=qya (by rw [HM.out,hres,qq];try rfl);clear hres qq;obtain⟨jo,jr,jl,jV,ji,je,jt,ja,jm,jZ,rfl⟩:=uk.parts;have HS4:=qya hs4;clear hs4;have yk:But b qp w4:=Fr.trans f1 f4;have z04:=yk.size;have z03:=f1.size;have qw:=qi.out;have xn:=qD.keep yk (by omega);obtain⟨vM,kp,kr,kJ,ko,ki,rr6,rr7⟩:=xn.c8;obtain⟨kq,kn,ke,xk,xv,xz,gg6,gg7⟩:=xn.f8;have qJ:=xn.lt;have kV:=Blk.new w4 #[.int .i64 jo,.int .i64 jr,.string jl,.string jV,.slice ji je jt,.slice ja jm jZ] 32;obtain⟨v0,v1,v2,v3,v4,v5⟩:=kV.c6;clear qw;go_wp2;obtain⟨W',qv,S2,k3,zD⟩:=xn.put8 (.string s) (.string s4) (.int .i64 jo) (.int .i64 jr) (.string jl) (.string jV) (.slice ji je jt) (.slice ja jm jZ);rw [qv];clear qv;have gF:Blk ((W').alloc (.cells #[.int .i64 jo,.int .i64 jr,.string jl,.string jV,.slice ji je jt,.slice ja jm jZ] 32)) (w4.heap.size) #[.int .i64 jo,.int .i64 jr,.string jl,.string jV,.slice ji je jt,.slice ja jm jZ] 32:=(Blk.new' (by simp [qyd,zD]) _ _);have OF:Old W' ((W').alloc (.cells #[.int .i64 jo,.int .i64 jr,.string jl,.string jV,.slice ji je jt,.slice ja jm jZ] 32)):=((Old.refl W').alloc _);have k4:=k3.keep OF (fun e=>e);obtain⟨Wf,yw⟩ : ∃Wf,(W').alloc (.cells #[.int .i64 jo,.int .i64 jr,.string jl,.string jV,.slice ji je jt,.slice ja jm jZ] 32)=Wf:=⟨_,rfl⟩;rw [yw] at gF OF k4 ⊢;clear yw;obtain⟨qP,qC,qA,jv,jz,jj,cT,cB⟩:=k4.c8;refine bodyPost_ret (v:=.agg #[.string s,.string s4,.int .i64 jo,.int .i64 jr,.string jl,.string jV,.slice ji je jt,.slice ja jm jZ]) (by simp [results,Tryz.results150,go_sem,qP,qC,qA,jv,jz,jj,cT,cB]) rfl ?_;have S3:Fr (fun k=>k=w.heap.size) w4 Wf:=Fr.trans' S2 OF (fun _ _ e=>False.elim e);have qw:=qi.out;have z3:=S3.size;refine⟨(Fr.trans (Old.but O0 b) yk).trans' S3 (fun k hk e=>by omega),?_⟩;rw [HM.out];exact⟨_,q4,rfl,rfl,by omega,ks,h4.keep S3 (by omega) (fun g hg=>by have:=qQ g hg;omega),s,s4,_,_,_,_,_,_,rfl,HS.out,HS4.out,ExAt.more (fun k hk=>⟨by omega,qyc hk.2 z3⟩) _ _ (uk.keep S3 (fun k hk e=>by omega))⟩
def zyn{α : Type}(At:World→(Nat→Prop)→α→Value→Prop)(Fa:Nat→Prop)(b:Nat)(la:Option Addr)(lc:Nat)(L:List RT)(toks:List Lx.Tok)(len:Int)(r:Sx.Res α)(q:Nat)(W:World)(e:Ending)(W':World):Prop:=
 But b W W'∧match r with
  | .ok x rest=>∃v q',e=.returned v∧rest=toks.drop q'∧q<q'∧q'≤toks.length∧Rd W' b la lc L q'∧At W' (fun k=>Fa k∨(W.heap.size≤k∧k<W'.heap.size)) x v
  | .bad rest=>e=panS (zah len rest)
def zza(w:World)(F:Nat→Prop)(l:List Sx.Ex)(v:Value):Prop:=∃xs,RowAt w F 32 6 v l.length xs∧ExsAt w F l xs
theorem zkh(b:Nat)(la:Option Addr)(lc:Nat)(L:List RT)(toks:List Lx.Tok)(len:Int)(hL:RtOf L toks len)(ex:List Lx.Tok→Sx.Res Sx.Ex)(q:Nat)(yC : ∀(q':Nat) (W:World),q<q'→Rd W b la lc L q'→q'≤toks.length→Calls Tryz.prog 43 #[.pointer (some ⟨b,0,none⟩)] W (zaf ExAt b la lc L toks len (ex (toks.drop q')) q' W))
  (w:World)(h:Rd w b la lc L q)(hq:q≤toks.length)(a:Sx.Ex)(Fa:Nat→Prop)(jg jX:Int)(jU jC:ByteArray)(jF:Option Addr)(jW jP:Nat)(jG:Option Addr)(jY jH:Nat)(ha:ExAt w Fa a (.agg #[.int .i64 jg,.int .i64 jX,.string jU,.string jC,.slice jF jW jP,.slice jG jY jH]))(kl : ∀k,Fa k→k≠b∧k<w.heap.size)(M0:Sx.Res (List Sx.Ex))(HM:Hid (M0=Sx.zf3 ex a (toks.drop q))) :
  Calls Tryz.prog 168 #[.pointer (some ⟨b,0,none⟩),.agg #[.int .i64 jg,.int .i64 jX,.string jU,.string jC,.slice jF jW jP,.slice jG jY jH]] w (zyn zza Fa b la lc L toks len M0 q w):=by
 have jp:(⟨#[105,110]⟩:ByteArray).toList=Sx.wIn:=qyw [105,110];have HL:=qya jp;clear jp;have HM:Hid (M0=(Sx.take Sx.wIn (toks.drop q)).bind fun _ r=>(ex r).map fun b=>[a,b]):=HM;have hb:=h.blk.lt;have qQ:=h.glt (by rw [hL];simp;omega);have O0:Old w (w.alloc (.cells #[.int .i64 jg,.int .i64 jX,.string jU,.string jC,.slice jF jW jP,.slice jG jY jH] 32)):=(Old.refl w).alloc _;have qD:=Blk.new w #[.int .i64 jg,.int .i64 jX,.string jU,.string jC,.slice jF jW jP,.slice jG jY jH] 32;have h0:=h.old O0;obtain⟨qp,qr⟩ : ∃qp,w.alloc (.cells #[.int .i64 jg,.int .i64 jX,.string jU,.string jC,.slice jF jW jP,.slice jG jY jH] 32)=qp:=⟨_,rfl⟩;have qw:qp.heap.size=w.heap.size+1:=by rw [← qr];simp
 rw [qr] at O0 qD h0;have vh:=qya qr;have qi:=qya qw;clear qr qw
 go_enter Tryz.func168,Tryz.ntmps168
 go_wp2_with fail
 rw [vh.out]
 (with_reducible refine (zbq qp b la lc L toks len hL q h0 hq ⟨#[105,110]⟩ Sx.wIn HL.out (by decide)).mono ?_)
 rintro e w1 ⟨f1,hp⟩;cases hres:Sx.take Sx.wIn (toks.drop q) with
 | bad rest=>
  rw [hres] at hp;have hp:e=panS (zah len rest):=hp;subst hp;have HR:=qya hres;clear hres;go_wp2;refine⟨rfl,Fr.trans (Old.but O0 b) f1,?_⟩;rw [HM.out,HR.out]
  try rfl
 | ok ww rest=>
  rw [hres] at hp;obtain⟨_,rfl,rfl,qq,xK,h1⟩:=hp;have HM:Hid (M0=(ex (toks.drop (q+1))).map fun b=>[a,b]):=qya (by rw [HM.out,hres,qq];try rfl);clear hres qq
  go_wp2_with fail
  (with_reducible refine (yC (q+1) w1 (by omega) h1 xK).mono ?_)
  rintro e w4 ⟨f4,hp⟩;cases hres:ex (toks.drop (q+1)) with
  | bad rest=>
   rw [hres] at hp;have hp:e=panS (zah len rest):=hp;subst hp;have HR:=qya hres;clear hres;go_wp2;refine⟨rfl,Fr.trans (Old.but O0 b) (Fr.trans f1 f4),?_⟩;rw [HM.out,HR.out]
   try rfl
  | ok xy rest=>
   rw [hres] at hp;obtain⟨v4,q4,rfl,qq,yD,ks,h4,uk⟩:=hp;have HM:Hid (M0=.ok [a,xy] (toks.drop q4)):=qya (by rw [HM.out,hres,qq];try rfl);clear hres qq;obtain⟨jo,jr,jl,jV,ji,je,jt,ja,jm,jZ,rfl⟩:=uk.parts;have yk:But b qp w4:=Fr.trans f1 f4;have z04:=yk.size;have z01:=f1.size;have qw:=qi.out;have kB4:=(qD.keep yk (by omega)).alloc (.cells #[.int .i64 jo,.int .i64 jr,.string jl,.string jV,.slice ji je jt,.slice ja jm jZ] 32);obtain⟨bb0,bb1,bb2,bb3,bb4,bb5⟩:=kB4.c6;have kV:=Blk.new w4 #[.int .i64 jo,.int .i64 jr,.string jl,.string jV,.slice ji je jt,.slice ja jm jZ] 32;obtain⟨v0,v1,v2,v3,v4,v5⟩:=kV.c6;have OF:Old w4 ((w4.alloc (.cells #[.int .i64 jo,.int .i64 jr,.string jl,.string jV,.slice ji je jt,.slice ja jm jZ] 32)).alloc (.cells #[.int .i64 jg,.int .i64 jX,.string jU,.string jC,.slice jF jW jP,.slice jG jY jH,.int .i64 jo,.int .i64 jr,.string jl,.string jV,.slice ji je jt,.slice ja jm jZ] 32)):=((Old.refl w4).alloc _).alloc _;have kG:Blk ((w4.alloc (.cells #[.int .i64 jo,.int .i64 jr,.string jl,.string jV,.slice ji je jt,.slice ja jm jZ] 32)).alloc (.cells #[.int .i64 jg,.int .i64 jX,.string jU,.string jC,.slice jF jW jP,.slice jG jY jH,.int .i64 jo,.int .i64 jr,.string jl,.string jV,.slice ji je jt,.slice ja jm jZ] 32)) (w4.heap.size+1) #[.int .i64 jg,.int .i64 jX,.string jU,.string jC,.slice jF jW jP,.slice jG jY jH,.int .i64 jo,.int .i64 jr,.string jl,.string jV,.slice ji je jt,.slice ja jm jZ] 32:=Blk.new' (by simp) _ _;clear qw;go_wp2;obtain⟨Wf,yw⟩ : ∃Wf,(w4.alloc (.cells #[.int .i64 jo,.int .i64 jr,.string jl,.string jV,.slice ji je jt,.slice ja jm jZ] 32)).alloc (.cells #[.int .i64 jg,.int .i64 jX,.string jU,.string jC,.slice jF jW jP,.slice jG jY jH,.int .i64 jo,.int .i64 jr,.string jl,.string jV,.slice ji je jt,.slice ja jm jZ] 32)=Wf:=⟨_,rfl⟩;rw [yw] at OF kG ⊢;clear yw;refine bodyPost_ret (v:=.slice (some ⟨w4.heap.size+1,0,none⟩) 2 2) (by simp [results,Tryz.results168,go_sem]) rfl ?_;have qw:=qi.out;have cZ:=kG.lt;have zf:=OF.size;have FF:But b w Wf:=Fr.trans (Old.but O0 b) (Fr.trans yk (Old.but OF b));refine⟨FF,?_⟩;rw [HM.out];have ta:=ExAt.more (F':=fun k=>Fa k∨(w.heap.size≤k∧k<Wf.heap.size)) (fun k hk=>.inl hk) _ _ (ha.keep FF (fun k hk e=>(kl k hk).1 e));have tx:=ExAt.more (F':=fun k=>Fa k∨(w.heap.size≤k∧k<Wf.heap.size)) (fun k hk=>.inr ⟨by omega,by omega⟩) _ _ (uk.keep OF (fun _ _ e=>e));exact⟨_,q4,rfl,rfl,by omega,ks,h4.old OF,[.int .i64 jg,.int .i64 jX,.string jU,.string jC,.slice jF jW jP,.slice jG jY jH,.int .i64 jo,.int .i64 jr,.string jl,.string jV,.slice ji je jt,.slice ja jm jZ],RowAt.full kG rfl (show 2≤maxLen by decide) (.inr ⟨by omega,cZ⟩),ExsAt.two ta tx⟩
theorem zst(b:Nat)(la:Option Addr)(lc:Nat)(L:List RT)(toks:List Lx.Tok)(len:Int)(hL:RtOf L toks len)(ex:List Lx.Tok→Sx.Res Sx.Ex)(q:Nat)(yC : ∀(q':Nat) (W:World),q<q'→Rd W b la lc L q'→q'≤toks.length→Calls Tryz.prog 43 #[.pointer (some ⟨b,0,none⟩)] W (zaf ExAt b la lc L toks len (ex (toks.drop q')) q' W))
  (w:World)(h:Rd w b la lc L q)(hq:q≤toks.length)(M0:Sx.Res Sx.Ex)(HM:Hid (M0=Sx.ifE ex (toks.drop q))) :
  Calls Tryz.prog 93 #[.pointer (some ⟨b,0,none⟩)] w (zaf ExAt b la lc L toks len M0 q w):=by
 have HL:=qya (show (⟨#[105,102]⟩:ByteArray).toList=Sx.wIf from qyw [105,102]);have cx:=qya (show (⟨#[116,104,101,110]⟩:ByteArray).toList=Sx.zdt from qyw [116,104,101,110]);have HL3:=qya (show (⟨#[101,108,115,101]⟩:ByteArray).toList=Sx.zcn from qyw [101,108,115,101]);have HM:Hid (M0=(Sx.take Sx.wIf (toks.drop q)).bind fun _ r=>(ex r).bind fun a r=>(Sx.take Sx.zdt r).bind fun _ r=>(ex r).bind fun b r=>(Sx.take Sx.zcn r).bind fun _ r=>(ex r).map fun c=>.mk 8 0 [] [] [a,b,c] [.mk 3 Sx.zfh [],.mk 3 Sx.zdh []]):=HM;have hb:=h.blk.lt;have qQ:=h.glt (by rw [hL];simp;omega);have O0:Old w (w.alloc (.cells #[.int .i64 0,.int .i64 0,.string ⟨#[]⟩,.string ⟨#[]⟩,.slice none 0 0,.slice none 0 0] 32)):=(Old.refl w).alloc _;have qD:=Blk.new w #[.int .i64 0,.int .i64 0,.string ⟨#[]⟩,.string ⟨#[]⟩,.slice none 0 0,.slice none 0 0] 32;have h0:=h.old O0;obtain⟨qp,qr⟩ : ∃qp,w.alloc (.cells #[.int .i64 0,.int .i64 0,.string ⟨#[]⟩,.string ⟨#[]⟩,.slice none 0 0,.slice none 0 0] 32)=qp:=⟨_,rfl⟩;have qw:qp.heap.size=w.heap.size+1:=by rw [← qr];simp
 rw [qr] at O0 qD h0;have vh:=qya qr;have qi:=qya qw;clear qr qw
 go_enter Tryz.func93,Tryz.ntmps93
 go_wp2_with fail
 rw [vh.out]
 (with_reducible refine (zbq qp b la lc L toks len hL q h0 hq ⟨#[105,102]⟩ Sx.wIf HL.out (by decide)).mono ?_)
 rintro e w1 ⟨f1,hp⟩;cases hres:Sx.take Sx.wIf (toks.drop q) with
 | bad rest=>
  rw [hres] at hp;have hp:e=panS (zah len rest):=hp;subst hp;have HR:=qya hres;clear hres;go_wp2;refine⟨rfl,Fr.trans (Old.but O0 b) f1,?_⟩;rw [HM.out,HR.out]
  try rfl
 | ok ww rest=>
  rw [hres] at hp;obtain⟨_,rfl,rfl,qq,xK,h1⟩:=hp;have HM:Hid (M0=(ex (toks.drop (q+1))).bind fun a r=>(Sx.take Sx.zdt r).bind fun _ r=>(ex r).bind fun b r=>(Sx.take Sx.zcn r).bind fun _ r=>(ex r).map fun c=>.mk 8 0 [] [] [a,b,c] [.mk 3 Sx.zfh [],.mk 3 Sx.zdh []]):=qya (by rw [HM.out,hres,qq];try rfl);clear hres qq
  go_wp2_with fail
  (with_reducible refine (yC (q+1) w1 (by omega) h1 xK).mono ?_)
  rintro e w2 ⟨f2,hp⟩;cases hres:ex (toks.drop (q+1)) with
  | bad rest=>
   rw [hres] at hp;have hp:e=panS (zah len rest):=hp;subst hp;have HR:=qya hres;clear hres;go_wp2;refine⟨rfl,Fr.trans (Old.but O0 b) (Fr.trans f1 f2),?_⟩;rw [HM.out,HR.out]
   try rfl
  | ok zQ rest=>
   rw [hres] at hp;obtain⟨v2,q2,rfl,qq,jh,qo,h2,fP⟩:=hp;have HM:Hid (M0=(Sx.take Sx.zdt (toks.drop q2)).bind fun _ r=>(ex r).bind fun b r=>(Sx.take Sx.zcn r).bind fun _ r=>(ex r).map fun c=>.mk 8 0 [] [] [zQ,b,c] [.mk 3 Sx.zfh [],.mk 3 Sx.zdh []]):=qya (by rw [HM.out,hres,qq];try rfl);clear hres qq;obtain⟨jg,jX,jU,jC,jF,jW,jP,jG,jY,jH,rfl⟩:=fP.parts;have o2:=(Old.refl w2).alloc (.cells #[.int .i64 jg,.int .i64 jX,.string jU,.string jC,.slice jF jW jP,.slice jG jY jH] 32)
   go_wp2_with fail
   (with_reducible refine (zbq _ b la lc L toks len hL q2 (h2.old o2) qo ⟨#[116,104,101,110]⟩ Sx.zdt cx.out (by decide)).mono ?_)
   rintro e w3 ⟨f3,hp⟩;cases hres:Sx.take Sx.zdt (toks.drop q2) with
   | bad rest=>
    rw [hres] at hp;have hp:e=panS (zah len rest):=hp;subst hp;have HR:=qya hres;clear hres;go_wp2;refine⟨rfl,Fr.trans (Old.but O0 b) (Fr.trans f1 (Fr.trans f2 (Fr.trans (Old.but o2 b) f3))),?_⟩;rw [HM.out,HR.out]
    try rfl
   | ok vC rest=>
    rw [hres] at hp;obtain⟨_,rfl,rfl,qq,uU,h3⟩:=hp;have HM:Hid (M0=(ex (toks.drop (q2+1))).bind fun b r=>(Sx.take Sx.zcn r).bind fun _ r=>(ex r).map fun c=>.mk 8 0 [] [] [zQ,b,c] [.mk 3 Sx.zfh [],.mk 3 Sx.zdh []]):=qya (by rw [HM.out,hres,qq];try rfl);clear hres qq
    go_wp2_with fail
    (with_reducible refine (yC (q2+1) w3 (by omega) h3 uU).mono ?_)
    rintro e w4 ⟨f4,hp⟩;cases hres:ex (toks.drop (q2+1)) with
    | bad rest=>
     rw [hres] at hp;have hp:e=panS (zah len rest):=hp;subst hp;have HR:=qya hres;clear hres;go_wp2;refine⟨rfl,Fr.trans (Old.but O0 b) (Fr.trans f1 (Fr.trans f2 (Fr.trans (Old.but o2 b) (Fr.trans f3 f4)))),?_⟩;rw [HM.out,HR.out]
     try rfl
    | ok xy rest=>
     rw [hres] at hp;obtain⟨v4,q4,rfl,qq,yD,ks,h4,uk⟩:=hp;have HM:Hid (M0=(Sx.take Sx.zcn (toks.drop q4)).bind fun _ r=>(ex r).map fun c=>.mk 8 0 [] [] [zQ,xy,c] [.mk 3 Sx.zfh [],.mk 3 Sx.zdh []]):=qya (by rw [HM.out,hres,qq];try rfl);clear hres qq;obtain⟨zx,zY,zW,zM,zP,zG,zR,zF,zU,zT,rfl⟩:=uk.parts;have o4:=(Old.refl w4).alloc (.cells #[.int .i64 zx,.int .i64 zY,.string zW,.string zM,.slice zP zG zR,.slice zF zU zT] 32)
     go_wp2_with fail
     (with_reducible refine (zbq _ b la lc L toks len hL q4 (h4.old o4) ks ⟨#[101,108,115,101]⟩ Sx.zcn HL3.out (by decide)).mono ?_)
     rintro e w5 ⟨f5,hp⟩;cases hres:Sx.take Sx.zcn (toks.drop q4) with
     | bad rest=>
      rw [hres] at hp;have hp:e=panS (zah len rest):=hp;subst hp;have HR:=qya hres;clear hres;go_wp2;refine⟨rfl,Fr.trans (Old.but O0 b) (Fr.trans f1 (Fr.trans f2 (Fr.trans (Old.but o2 b) (Fr.trans f3 (Fr.trans f4 (Fr.trans (Old.but o4 b) f5)))))),?_⟩;rw [HM.out,HR.out]
      try rfl
     | ok xJ rest=>
      rw [hres] at hp;obtain⟨_,rfl,rfl,qq,hq5,h5⟩:=hp;have HM:Hid (M0=(ex (toks.drop (q4+1))).map fun c=>.mk 8 0 [] [] [zQ,xy,c] [.mk 3 Sx.zfh [],.mk 3 Sx.zdh []]):=qya (by rw [HM.out,hres,qq];try rfl);clear hres qq
      go_wp2_with fail
      (with_reducible refine (yC (q4+1) w5 (by omega) h5 hq5).mono ?_)
      rintro e w6 ⟨f6,hp⟩;cases hres:ex (toks.drop (q4+1)) with
      | bad rest=>
       rw [hres] at hp;have hp:e=panS (zah len rest):=hp;subst hp;have HR:=qya hres;clear hres;go_wp2;refine⟨rfl,Fr.trans (Old.but O0 b) (Fr.trans f1 (Fr.trans f2 (Fr.trans (Old.but o2 b) (Fr.trans f3 (Fr.trans f4 (Fr.trans (Old.but o4 b) (Fr.trans f5 f6))))))),?_⟩;rw [HM.out,HR.out]
       try rfl
      | ok wu rest=>
       rw [hres] at hp;obtain⟨v6,q6,rfl,qq,uN,gv,h6,sG⟩:=hp;have HM:Hid (M0=.ok (.mk 8 0 [] [] [zQ,xy,wu] [.mk 3 Sx.zfh [],.mk 3 Sx.zdh []]) (toks.drop q6)):=qya (by rw [HM.out,hres,qq];try rfl);clear hres qq;obtain⟨wL,wQ,wY,gX,wR,wG,gV,wP,wZ,gQ,rfl⟩:=sG.parts;have tT:But b qp w6:=Fr.trans f1 (Fr.trans f2 (Fr.trans (Old.but o2 b) (Fr.trans f3 (Fr.trans f4 (Fr.trans (Old.but o4 b) (Fr.trans f5 f6))))));have F26:But b w2 w6:=Fr.trans (Old.but o2 b) (Fr.trans f3 (Fr.trans f4 (Fr.trans (Old.but o4 b) (Fr.trans f5 f6))));have dc:But b w4 w6:=Fr.trans (Old.but o4 b) (Fr.trans f5 f6);have z06:=tT.size;have z26:=F26.size;have z46:=dc.size;have z02:=(Fr.trans f1 f2).size;have z23:=f3.size;have z34:=f4.size;have z45:=f5.size;have z56:=f6.size;have wy:(w2.alloc (.cells #[.int .i64 jg,.int .i64 jX,.string jU,.string jC,.slice jF jW jP,.slice jG jY jH] 32)).heap.size=w2.heap.size+1:=qyd _ _;have yx:(w4.alloc (.cells #[.int .i64 zx,.int .i64 zY,.string zW,.string zM,.slice zP zG zR,.slice zF zU zT] 32)).heap.size=w4.heap.size+1:=qyd _ _;have z01:=f1.size;have qw:=qi.out;have yH:=qD.keep tT (by omega);have uX:=(Blk.new w2 #[.int .i64 jg,.int .i64 jX,.string jU,.string jC,.slice jF jW jP,.slice jG jY jH] 32).keep (Fr.trans f3 (Fr.trans f4 (Fr.trans (Old.but o4 b) (Fr.trans f5 f6)))) (by omega);have kB6:=(Blk.new w4 #[.int .i64 zx,.int .i64 zY,.string zW,.string zM,.slice zP zG zR,.slice zF zU zT] 32).keep (Fr.trans f5 f6) (by omega);have xd:=uX.lt;have hBl:=kB6.lt;obtain⟨vM,kp,kr,kJ,ko,ki⟩:=yH.c6;obtain⟨kq,kn,ke,xk,xv,xz⟩:=yH.f6;have qJ:=yH.lt;have hRl1:w.heap.size<w6.heap.size+1:=(by omega);have hRl2:w.heap.size<w6.heap.size+1+1:=(by omega);have gH:=(uX.alloc (.cells #[.int .i64 wL,.int .i64 wQ,.string wY,.string gX,.slice wR wG gV,.slice wP wZ gQ] 32)).alloc (.cells #[.int .i64 3,.string ⟨#[84,114,117,101]⟩,.slice none 0 0,.int .i64 3,.string ⟨#[70,97,108,115,101]⟩,.slice none 0 0] 37);have kB8:=(kB6.alloc (.cells #[.int .i64 wL,.int .i64 wQ,.string wY,.string gX,.slice wR wG gV,.slice wP wZ gQ] 32)).alloc (.cells #[.int .i64 3,.string ⟨#[84,114,117,101]⟩,.slice none 0 0,.int .i64 3,.string ⟨#[70,97,108,115,101]⟩,.slice none 0 0] 37);have kC8:=(Blk.new w6 #[.int .i64 wL,.int .i64 wQ,.string wY,.string gX,.slice wR wG gV,.slice wP wZ gQ] 32).alloc (.cells #[.int .i64 3,.string ⟨#[84,114,117,101]⟩,.slice none 0 0,.int .i64 3,.string ⟨#[70,97,108,115,101]⟩,.slice none 0 0] 37);have a0:=gH.c 0 (.int .i64 jg) rfl;have b0:=kB8.c 0 (.int .i64 zx) rfl;have c0:=kC8.c 0 (.int .i64 wL) rfl;have a1:=gH.c 1 (.int .i64 jX) rfl;have b1:=kB8.c 1 (.int .i64 zY) rfl;have c1:=kC8.c 1 (.int .i64 wQ) rfl;have a2:=gH.c 2 (.string jU) rfl;have b2:=kB8.c 2 (.string zW) rfl;have c2:=kC8.c 2 (.string wY) rfl;have a3:=gH.c 3 (.string jC) rfl;have b3:=kB8.c 3 (.string zM) rfl;have c3:=kC8.c 3 (.string gX) rfl;have a4:=gH.c 4 (.slice jF jW jP) rfl;have b4:=kB8.c 4 (.slice zP zG zR) rfl;have c4:=kC8.c 4 (.slice wR wG gV) rfl;have a5:=gH.c 5 (.slice jG jY jH) rfl;have b5:=kB8.c 5 (.slice zF zU zT) rfl;have c5:=kC8.c 5 (.slice wP wZ gQ) rfl;clear qw;go_wp2;obtain⟨W',qv,S2,k3,zD⟩:=yH.put6 (.int .i64 8) (.int .i64 0) (.string ⟨#[]⟩) (.string ⟨#[]⟩) (.slice (some ⟨w6.heap.size+1+1,0,none⟩) 3 3) (.slice (some ⟨w6.heap.size+1,0,none⟩) 2 2);rw [qv];clear qv;have gF:Blk ((((W').alloc (.cells #[.int .i64 wL,.int .i64 wQ,.string wY,.string gX,.slice wR wG gV,.slice wP wZ gQ] 32)).alloc (.cells #[.int .i64 3,.string ⟨#[84,114,117,101]⟩,.slice none 0 0,.int .i64 3,.string ⟨#[70,97,108,115,101]⟩,.slice none 0 0] 37)).alloc (.cells #[.int .i64 jg,.int .i64 jX,.string jU,.string jC,.slice jF jW jP,.slice jG jY jH,.int .i64 zx,.int .i64 zY,.string zW,.string zM,.slice zP zG zR,.slice zF zU zT,.int .i64 wL,.int .i64 wQ,.string wY,.string gX,.slice wR wG gV,.slice wP wZ gQ] 32)) (w6.heap.size) #[.int .i64 wL,.int .i64 wQ,.string wY,.string gX,.slice wR wG gV,.slice wP wZ gQ] 32:=(((Blk.new' (by simp [qyd,zD]) _ _).alloc (.cells #[.int .i64 3,.string ⟨#[84,114,117,101]⟩,.slice none 0 0,.int .i64 3,.string ⟨#[70,97,108,115,101]⟩,.slice none 0 0] 37)).alloc (.cells #[.int .i64 jg,.int .i64 jX,.string jU,.string jC,.slice jF jW jP,.slice jG jY jH,.int .i64 zx,.int .i64 zY,.string zW,.string zM,.slice zP zG zR,.slice zF zU zT,.int .i64 wL,.int .i64 wQ,.string wY,.string gX,.slice wR wG gV,.slice wP wZ gQ] 32));have bj:Blk ((((W').alloc (.cells #[.int .i64 wL,.int .i64 wQ,.string wY,.string gX,.slice wR wG gV,.slice wP wZ gQ] 32)).alloc (.cells #[.int .i64 3,.string ⟨#[84,114,117,101]⟩,.slice none 0 0,.int .i64 3,.string ⟨#[70,97,108,115,101]⟩,.slice none 0 0] 37)).alloc (.cells #[.int .i64 jg,.int .i64 jX,.string jU,.string jC,.slice jF jW jP,.slice jG jY jH,.int .i64 zx,.int .i64 zY,.string zW,.string zM,.slice zP zG zR,.slice zF zU zT,.int .i64 wL,.int .i64 wQ,.string wY,.string gX,.slice wR wG gV,.slice wP wZ gQ] 32)) (w6.heap.size+1) #[.int .i64 3,.string ⟨#[84,114,117,101]⟩,.slice none 0 0,.int .i64 3,.string ⟨#[70,97,108,115,101]⟩,.slice none 0 0] 37:=((Blk.new' (by simp [qyd,zD]) _ _).alloc (.cells #[.int .i64 jg,.int .i64 jX,.string jU,.string jC,.slice jF jW jP,.slice jG jY jH,.int .i64 zx,.int .i64 zY,.string zW,.string zM,.slice zP zG zR,.slice zF zU zT,.int .i64 wL,.int .i64 wQ,.string wY,.string gX,.slice wR wG gV,.slice wP wZ gQ] 32));have kG2:Blk ((((W').alloc (.cells #[.int .i64 wL,.int .i64 wQ,.string wY,.string gX,.slice wR wG gV,.slice wP wZ gQ] 32)).alloc (.cells #[.int .i64 3,.string ⟨#[84,114,117,101]⟩,.slice none 0 0,.int .i64 3,.string ⟨#[70,97,108,115,101]⟩,.slice none 0 0] 37)).alloc (.cells #[.int .i64 jg,.int .i64 jX,.string jU,.string jC,.slice jF jW jP,.slice jG jY jH,.int .i64 zx,.int .i64 zY,.string zW,.string zM,.slice zP zG zR,.slice zF zU zT,.int .i64 wL,.int .i64 wQ,.string wY,.string gX,.slice wR wG gV,.slice wP wZ gQ] 32)) (w6.heap.size+1+1) #[.int .i64 jg,.int .i64 jX,.string jU,.string jC,.slice jF jW jP,.slice jG jY jH,.int .i64 zx,.int .i64 zY,.string zW,.string zM,.slice zP zG zR,.slice zF zU zT,.int .i64 wL,.int .i64 wQ,.string wY,.string gX,.slice wR wG gV,.slice wP wZ gQ] 32:=(Blk.new' (by simp [qyd,zD]) _ _);have OF:Old W' ((((W').alloc (.cells #[.int .i64 wL,.int .i64 wQ,.string wY,.string gX,.slice wR wG gV,.slice wP wZ gQ] 32)).alloc (.cells #[.int .i64 3,.string ⟨#[84,114,117,101]⟩,.slice none 0 0,.int .i64 3,.string ⟨#[70,97,108,115,101]⟩,.slice none 0 0] 37)).alloc (.cells #[.int .i64 jg,.int .i64 jX,.string jU,.string jC,.slice jF jW jP,.slice jG jY jH,.int .i64 zx,.int .i64 zY,.string zW,.string zM,.slice zP zG zR,.slice zF zU zT,.int .i64 wL,.int .i64 wQ,.string wY,.string gX,.slice wR wG gV,.slice wP wZ gQ] 32)):=((((Old.refl W').alloc _).alloc _).alloc _);have k4:=k3.keep OF (fun e=>e);obtain⟨Wf,yw⟩ : ∃Wf,(((W').alloc (.cells #[.int .i64 wL,.int .i64 wQ,.string wY,.string gX,.slice wR wG gV,.slice wP wZ gQ] 32)).alloc (.cells #[.int .i64 3,.string ⟨#[84,114,117,101]⟩,.slice none 0 0,.int .i64 3,.string ⟨#[70,97,108,115,101]⟩,.slice none 0 0] 37)).alloc (.cells #[.int .i64 jg,.int .i64 jX,.string jU,.string jC,.slice jF jW jP,.slice jG jY jH,.int .i64 zx,.int .i64 zY,.string zW,.string zM,.slice zP zG zR,.slice zF zU zT,.int .i64 wL,.int .i64 wQ,.string wY,.string gX,.slice wR wG gV,.slice wP wZ gQ] 32)=Wf:=⟨_,rfl⟩;rw [yw] at gF bj kG2 OF k4 ⊢;clear yw;obtain⟨qP,qC,qA,jv,jz,jj⟩:=k4.c6;refine bodyPost_ret (v:=.agg #[.int .i64 8,.int .i64 0,.string ⟨#[]⟩,.string ⟨#[]⟩,.slice (some ⟨w6.heap.size+1+1,0,none⟩) 3 3,.slice (some ⟨w6.heap.size+1,0,none⟩) 2 2]) (by simp [results,Tryz.results93,go_sem,qP,qC,qA,jv,jz,jj]) rfl ?_;have S3:Fr (fun k=>k=w.heap.size) w6 Wf:=Fr.trans' S2 OF (fun _ _ e=>False.elim e);have qw:=qi.out;have z3:=S3.size;have cZ:=kG2.lt;have hGl1:=bj.lt;refine⟨(Fr.trans (Old.but O0 b) tT).trans' S3 (fun k hk e=>by omega),?_⟩;rw [HM.out];refine⟨_,q6,rfl,rfl,by omega,gv,h6.keep S3 (by omega) (fun g hg=>by have:=qQ g hg;omega),?_⟩;have t2:=ExAt.more (F':=fun k=>w.heap.size≤k∧k<Wf.heap.size) (fun k hk=>⟨by omega,by omega⟩) _ _ ((fP.keep F26 (fun k hk e=>by omega)).keep S3 (fun k hk e=>by omega));have t4:=ExAt.more (F':=fun k=>w.heap.size≤k∧k<Wf.heap.size) (fun k hk=>⟨by omega,by omega⟩) _ _ ((uk.keep dc (fun k hk e=>by omega)).keep S3 (fun k hk e=>by omega));have t6:=ExAt.more (F':=fun k=>w.heap.size≤k∧k<Wf.heap.size) (fun k hk=>⟨by omega,by omega⟩) _ _ (sG.keep S3 (fun k hk e=>by omega));rw [ExAt];refine⟨_,[.int .i64 jg,.int .i64 jX,.string jU,.string jC,.slice jF jW jP,.slice jG jY jH,.int .i64 zx,.int .i64 zY,.string zW,.string zM,.slice zP zG zR,.slice zF zU zT,.int .i64 wL,.int .i64 wQ,.string wY,.string gX,.slice wR wG gV,.slice wP wZ gQ],_,[.int .i64 3,.string ⟨#[84,114,117,101]⟩,.slice none 0 0,.int .i64 3,.string ⟨#[70,97,108,115,101]⟩,.slice none 0 0],rfl,RowAt.full kG2 rfl (show 3≤maxLen by decide) ⟨by omega,cZ⟩,?_,RowAt.full bj rfl (show 2≤maxLen by decide) ⟨by omega,hGl1⟩,?_⟩
       ·rw [ExsAt];refine⟨_,_,_,_,_,_,_,rfl,t2,ExsAt.two t4 t6⟩
       ·rw [PasAt];refine⟨_,_,_,_,rfl,?_,?_⟩
        ·rw [PaAt];exact⟨_,[],rfl,RowAt.none _ _ _ _,by rw [PasAt]⟩
        ·rw [PasAt];refine⟨_,_,_,_,rfl,?_,by rw [PasAt]⟩;rw [PaAt];exact⟨_,[],rfl,RowAt.none _ _ _ _,by rw [PasAt]⟩
theorem zx8(b:Nat)(la:Option Addr)(lc:Nat)(L:List RT)(toks:List Lx.Tok)(len:Int)(hL:RtOf L toks len)(ex:List Lx.Tok→Sx.Res Sx.Ex)(q:Nat)(yC : ∀(q':Nat) (W:World),q<q'→Rd W b la lc L q'→q'≤toks.length→Calls Tryz.prog 43 #[.pointer (some ⟨b,0,none⟩)] W (zaf ExAt b la lc L toks len (ex (toks.drop q')) q' W))
  (w:World)(h:Rd w b la lc L q)(hq:q≤toks.length)(M0:Sx.Res Sx.Ex)(HM:Hid (M0=Sx.letE ex (toks.drop q))) :
  Calls Tryz.prog 91 #[.pointer (some ⟨b,0,none⟩)] w (zaf ExAt b la lc L toks len M0 q w):=by
 have HL:=qya (show (⟨#[108,101,116]⟩:ByteArray).toList=Sx.wLet from qyw [108,101,116]);have cx:=qya (show (⟨#[102,117,110]⟩:ByteArray).toList=Sx.wFun from qyw [102,117,110]);have HM:Hid (M0=(Sx.take Sx.wLet (toks.drop q)).bind fun _ r=>
  if (Sx.hd r).text=Sx.wFun then (Sx.funE ex r.tail).bind fun x r=>(Sx.zf3 ex x.body r).map fun l=>.mk 7 0 x.name x.arg l []
  else (Sx.zhq ex r).bind fun x r=>(Sx.zf3 ex x.2 r).map fun l=>.mk 6 0 x.1 [] l []):=HM
 have hb:=h.blk.lt;have qQ:=h.glt (by rw [hL];simp;omega);have O0:Old w (w.alloc (.cells #[.int .i64 0,.int .i64 0,.string ⟨#[]⟩,.string ⟨#[]⟩,.slice none 0 0,.slice none 0 0] 32)):=(Old.refl w).alloc _;have qD:=Blk.new w #[.int .i64 0,.int .i64 0,.string ⟨#[]⟩,.string ⟨#[]⟩,.slice none 0 0,.slice none 0 0] 32;have h0:=h.old O0;obtain⟨qp,qr⟩ : ∃qp,w.alloc (.cells #[.int .i64 0,.int .i64 0,.string ⟨#[]⟩,.string ⟨#[]⟩,.slice none 0 0,.slice none 0 0] 32)=qp:=⟨_,rfl⟩;have qw:qp.heap.size=w.heap.size+1:=by rw [← qr];simp
 rw [qr] at O0 qD h0;have vh:=qya qr;have qi:=qya qw;clear qr qw
 go_enter Tryz.func91,Tryz.ntmps91
 go_wp2_with fail
 rw [vh.out]
 (with_reducible refine (zbq qp b la lc L toks len hL q h0 hq ⟨#[108,101,116]⟩ Sx.wLet HL.out (by decide)).mono ?_)
 rintro e w1 ⟨f1,hp⟩;cases hres:Sx.take Sx.wLet (toks.drop q) with
 | bad rest=>
  rw [hres] at hp;have hp:e=panS (zah len rest):=hp;subst hp;have HR:=qya hres;clear hres;go_wp2;refine⟨rfl,Fr.trans (Old.but O0 b) f1,?_⟩;rw [HM.out,HR.out]
  try rfl
 | ok ww rest=>
  rw [hres] at hp;obtain⟨_,rfl,rfl,qq,xK,h1⟩:=hp;have HM:Hid (M0=if (Sx.hd (toks.drop (q+1))).text=Sx.wFun then (Sx.funE ex (toks.drop (q+1)).tail).bind fun x r=>(Sx.zf3 ex x.body r).map fun l=>.mk 7 0 x.name x.arg l [] else (Sx.zhq ex (toks.drop (q+1))).bind fun x r=>(Sx.zf3 ex x.2 r).map fun l=>.mk 6 0 x.1 [] l []):=qya (by rw [HM.out,hres,qq];try rfl);clear hres qq;obtain⟨tk,hx⟩ : ∃tk,L[q+1]? = some tk:=⟨_,List.getElem?_eq_getElem (by rw [hL];simp;omega)⟩;obtain⟨jb,hd2,vj⟩:=zc2 hL hx xK;have HX:=qya hx;have H2:=qya hd2;clear hx jb hd2 vj;cases hc:(tk.s.toList==Sx.wFun)
  ·have HM:Hid (M0=(Sx.zhq ex (toks.drop (q+1))).bind fun x r=>(Sx.zf3 ex x.2 r).map fun l=>.mk 6 0 x.1 [] l []):=qya (by rw [HM.out,if_neg (by rw [H2.out];simpa using hc)])
   go_wp2_with fail
   (with_reducible refine (ze6 w1 b la lc L (q+1) h1 tk HX.out ⟨#[102,117,110]⟩ (by rw [cx.out];exact hc)).mono ?_)
   rintro e w2 ⟨rfl,o2⟩
   go_wp2_with fail
   (with_reducible refine (zd9 b la lc L toks len hL ex (q+1) (fun q' W hl hr jq=>yC q' W (by omega) hr jq) w2 (h1.old o2) xK _ (qya rfl)).mono ?_)
   rintro e w4 ⟨f4,hp⟩;cases hres:Sx.zhq ex (toks.drop (q+1)) with
   | bad rest=>
    rw [hres] at hp;have hp:e=panS (zah len rest):=hp;subst hp;have HR:=qya hres;clear hres;go_wp2;refine⟨rfl,Fr.trans (Old.but O0 b) (Fr.trans f1 (Fr.trans (Old.but o2 b) f4)),?_⟩;rw [HM.out,HR.out]
    try rfl
   | ok xy rest=>
    rw [hres] at hp;obtain⟨v4,q4,rfl,qq,yD,ks,h4,s,ev4,rfl,hs,uk⟩:=hp;have HM:Hid (M0=(Sx.zf3 ex xy.2 (toks.drop q4)).map fun l=>.mk 6 0 xy.1 [] l []):=qya (by rw [HM.out,hres,qq];try rfl);clear hres qq;obtain⟨jo,jr,jl,jV,ji,je,jt,ja,jm,jZ,rfl⟩:=uk.parts;have HS:=qya hs;clear hs;have yk:But b qp w4:=Fr.trans f1 (Fr.trans (Old.but o2 b) f4);have z04:=yk.size;have z02:=f1.size;have z24:=o2.size;have qw:=qi.out;have o4:=(Old.refl w4).alloc (.cells #[.int .i64 jo,.int .i64 jr,.string jl,.string jV,.slice ji je jt,.slice ja jm jZ] 32);have yx:(w4.alloc (.cells #[.int .i64 jo,.int .i64 jr,.string jl,.string jV,.slice ji je jt,.slice ja jm jZ] 32)).heap.size=w4.heap.size+1:=qyd _ _;have kV:=Blk.new w4 #[.int .i64 jo,.int .i64 jr,.string jl,.string jV,.slice ji je jt,.slice ja jm jZ] 32;obtain⟨v0,v1,v2,v3,v4,v5⟩:=kV.c6;have hR:=zkh b la lc L toks len hL ex q4 (fun q' W hl hr jq=>yC q' W (by omega) hr jq) _ (h4.old o4) ks xy.2 (fun k=>w2.heap.size≤k∧k<w4.heap.size) _ _ _ _ _ _ _ _ _ _ (uk.keep o4 (fun _ _ e=>e)) (fun k hk=>⟨by omega,by omega⟩) _ (qya rfl);have HZ:=qya qw;have tX:=qya yx;clear qw yx
    go_wp2_with fail
    (with_reducible refine (hR).mono ?_)
    rintro e w6 ⟨f6,hp⟩;cases hres:Sx.zf3 ex xy.2 (toks.drop q4) with
    | bad rest=>
     rw [hres] at hp;have hp:e=panS (zah len rest):=hp;subst hp;have HR:=qya hres;clear hres;go_wp2;refine⟨rfl,Fr.trans (Old.but O0 b) (Fr.trans yk (Fr.trans (Old.but o4 b) f6)),?_⟩;rw [HM.out,HR.out]
     try rfl
    | ok wu rest=>
     rw [hres] at hp;obtain⟨v6,q6,rfl,qq,uN,gv,h6,xs6,fh,lQ⟩:=hp;have HM:Hid (M0=.ok (.mk 6 0 xy.1 [] wu []) (toks.drop q6)):=qya (by rw [HM.out,hres,qq];try rfl);clear hres qq;obtain⟨l6,c6,rfl⟩:=zad fh.1;have qw:=HZ.out;have yx:=tX.out;have z46:=f6.size;have tT:But b qp w6:=Fr.trans yk (Fr.trans (Old.but o4 b) f6);have z06:=tT.size;have yH:=qD.keep tT (by omega);obtain⟨vM,kp,kr,kJ,ko,ki⟩:=yH.c6;obtain⟨kq,kn,ke,xk,xv,xz⟩:=yH.f6;have qJ:=yH.lt;clear qw yx;go_wp2;obtain⟨Wf,qv,S2,k3,zD⟩:=yH.put6 (.int .i64 6) (.int .i64 0) (.string s) (.string ⟨#[]⟩) (.slice l6 wu.length c6) (.slice none 0 0);rw [qv];clear qv;obtain⟨qP,qC,qA,jv,jz,jj⟩:=k3.c6;refine bodyPost_ret (v:=.agg #[.int .i64 6,.int .i64 0,.string s,.string ⟨#[]⟩,.slice l6 wu.length c6,.slice none 0 0]) (by simp [results,Tryz.results91,go_sem,qP,qC,qA,jv,jz,jj]) rfl ?_;have S3:=S2;have qw:=HZ.out;have yx:=tX.out;have z3:=S3.size;refine⟨(Fr.trans (Old.but O0 b) tT).trans' S3 (fun k hk e=>by omega),?_⟩;rw [HM.out];refine⟨_,q6,rfl,rfl,by omega,gv,h6.keep S3 (by omega) (fun g hg=>by have:=qQ g hg;omega),?_⟩;rw [ExAt];have fl : ∀k,((w2.heap.size≤k∧k<w4.heap.size)∨((w4.alloc (.cells #[.int .i64 jo,.int .i64 jr,.string jl,.string jV,.slice ji je jt,.slice ja jm jZ] 32)).heap.size≤k∧k<w6.heap.size))→w.heap.size≤k∧k<Wf.heap.size:=fun k hk=>by omega
     have zh : ∀k,((w2.heap.size≤k∧k<w4.heap.size)∨((w4.alloc (.cells #[.int .i64 jo,.int .i64 jr,.string jl,.string jV,.slice ji je jt,.slice ja jm jZ] 32)).heap.size≤k∧k<w6.heap.size))→¬(k=w.heap.size):=fun k hk e=>by omega
     refine⟨_,xs6,_,[],by rw [← HS.out,zcf];try rfl,(fh.keep S3 zh).more fl,ExsAt.more fl _ _ (lQ.keep S3 zh),RowAt.none _ _ _ _,by rw [PasAt]⟩
  ·have jT:=zbb hL HX.out xK (by decide) hc;have HM:Hid (M0=(Sx.funE ex (toks.drop (q+1+1))).bind fun x r=>(Sx.zf3 ex x.body r).map fun l=>.mk 7 0 x.name x.arg l []):=qya (by rw [HM.out,if_pos (by rw [H2.out];simpa using hc),qys])
   go_wp2_with fail
   (with_reducible refine (zd0 w1 b la lc L (q+1) h1 tk HX.out ⟨#[102,117,110]⟩ (by rw [cx.out];exact hc)).mono ?_)
   rintro e w2 ⟨rfl,h2,f2⟩
   go_wp2_with fail
   (with_reducible refine (zun b la lc L toks len hL ex (q+1+1) (fun q' W hl hr jq=>yC q' W (by omega) hr jq) w2 h2 (Nat.succ_le_of_lt jT) _ (qya rfl)).mono ?_)
   rintro e w4 ⟨f4,hp⟩;cases hres:Sx.funE ex (toks.drop (q+1+1)) with
   | bad rest=>
    rw [hres] at hp;have hp:e=panS (zah len rest):=hp;subst hp;have HR:=qya hres;clear hres;go_wp2;refine⟨rfl,Fr.trans (Old.but O0 b) (Fr.trans f1 (Fr.trans f2 f4)),?_⟩;rw [HM.out,HR.out]
    try rfl
   | ok xy rest=>
    rw [hres] at hp;obtain⟨v4,q4,rfl,qq,yD,ks,h4,s,s4,a0,a1,a2,a3,a4,a5,rfl,hs,hs4,uk⟩:=hp;have HM:Hid (M0=(Sx.zf3 ex xy.body (toks.drop q4)).map fun l=>.mk 7 0 xy.name xy.arg l []):=qya (by rw [HM.out,hres,qq];try rfl);clear hres qq;obtain⟨jo,jr,jl,jV,ji,je,jt,ja,jm,jZ,vr⟩:=uk.parts;cases vr;have HS:=qya hs;have HS4:=qya hs4;clear hs hs4;have yk:But b qp w4:=Fr.trans f1 (Fr.trans f2 f4);have z04:=yk.size;have z02:=f1.size;have z24:=f2.size;have qw:=qi.out;have o4:=(Old.refl w4).alloc (.cells #[.string s,.string s4,.int .i64 jo,.int .i64 jr,.string jl,.string jV,.slice ji je jt,.slice ja jm jZ] 144);have yx:(w4.alloc (.cells #[.string s,.string s4,.int .i64 jo,.int .i64 jr,.string jl,.string jV,.slice ji je jt,.slice ja jm jZ] 144)).heap.size=w4.heap.size+1:=qyd _ _;have kV:=Blk.new w4 #[.string s,.string s4,.int .i64 jo,.int .i64 jr,.string jl,.string jV,.slice ji je jt,.slice ja jm jZ] 144;have hR:=zkh b la lc L toks len hL ex q4 (fun q' W hl hr jq=>yC q' W (by omega) hr jq) _ ((h4.old o4).old (Old.refl _).drew) ks xy.body (fun k=>w2.heap.size≤k∧k<w4.heap.size) _ _ _ _ _ _ _ _ _ _ ((uk.keep o4 (fun _ _ e=>e)).keep (Old.refl _).drew (fun _ _ e=>e)) (fun k hk=>⟨by omega,by show k<(w4.alloc _).heap.size;omega⟩) _ (qya rfl);have HZ:=qya qw;have tX:=qya yx;clear qw yx
    go_wp2_with fail
    have hS0:(w4.alloc (.cells #[.string s,.string s4,.int .i64 jo,.int .i64 jr,.string jl,.string jV,.slice ji je jt,.slice ja jm jZ] 144)).cell? ⟨w4.heap.size,0,none⟩=some (.string s)∧(w4.alloc (.cells #[.string s,.string s4,.int .i64 jo,.int .i64 jr,.string jl,.string jV,.slice ji je jt,.slice ja jm jZ] 144)).cell? ⟨w4.heap.size,1,none⟩=some (.string s4)∧(w4.alloc (.cells #[.string s,.string s4,.int .i64 jo,.int .i64 jr,.string jl,.string jV,.slice ji je jt,.slice ja jm jZ] 144)).cell? ⟨w4.heap.size,2,none⟩=some (.int .i64 jo)∧(w4.alloc (.cells #[.string s,.string s4,.int .i64 jo,.int .i64 jr,.string jl,.string jV,.slice ji je jt,.slice ja jm jZ] 144)).cell? ⟨w4.heap.size,3,none⟩=some (.int .i64 jr)∧(w4.alloc (.cells #[.string s,.string s4,.int .i64 jo,.int .i64 jr,.string jl,.string jV,.slice ji je jt,.slice ja jm jZ] 144)).cell? ⟨w4.heap.size,4,none⟩=some (.string jl)∧(w4.alloc (.cells #[.string s,.string s4,.int .i64 jo,.int .i64 jr,.string jl,.string jV,.slice ji je jt,.slice ja jm jZ] 144)).cell? ⟨w4.heap.size,5,none⟩=some (.string jV)∧(w4.alloc (.cells #[.string s,.string s4,.int .i64 jo,.int .i64 jr,.string jl,.string jV,.slice ji je jt,.slice ja jm jZ] 144)).cell? ⟨w4.heap.size,6,none⟩=some (.slice ji je jt)∧(w4.alloc (.cells #[.string s,.string s4,.int .i64 jo,.int .i64 jr,.string jl,.string jV,.slice ji je jt,.slice ja jm jZ] 144)).cell? ⟨w4.heap.size,7,none⟩=some (.slice ja jm jZ):=⟨kV.cell (i:=0) rfl,kV.cell (i:=1) rfl,kV.cell (i:=2) rfl,kV.cell (i:=3) rfl,kV.cell (i:=4) rfl,kV.cell (i:=5) rfl,kV.cell (i:=6) rfl,kV.cell (i:=7) rfl⟩;refine wp_region_held_drew (S:=fun w'=>w'.cell? ⟨w4.heap.size,0,none⟩=some (.string s)∧w'.cell? ⟨w4.heap.size,1,none⟩=some (.string s4)∧w'.cell? ⟨w4.heap.size,2,none⟩=some (.int .i64 jo)∧w'.cell? ⟨w4.heap.size,3,none⟩=some (.int .i64 jr)∧w'.cell? ⟨w4.heap.size,4,none⟩=some (.string jl)∧w'.cell? ⟨w4.heap.size,5,none⟩=some (.string jV)∧w'.cell? ⟨w4.heap.size,6,none⟩=some (.slice ji je jt)∧w'.cell? ⟨w4.heap.size,7,none⟩=some (.slice ja jm jZ)) (by kernel_rfl) hS0 (fun hH => ?_);refine wpAnyH_take (i:=0) (v := ?_) rfl (by kernel_rfl) (by kernel_rfl) (by kernel_rfl) (fun _ _ _ h=>h) (Or.inl ⟨by rfl,?y0⟩) hH ?r0
    case y0=>(intro w' jA;(try dsimp only at jA);obtain⟨u0,u1,u2,u3,u4,u5,u6,u7⟩:=jA;go_simp;try with_reducible rfl)
    case' r0=>try simp only [Act.put,qxa,qxb,qxc,qxd,qxe,qxf]
    refine wpAnyH_take (i:=1) (v := ?_) rfl (by kernel_rfl) (by kernel_rfl) (by kernel_rfl) (fun _ _ _ h=>h) (Or.inl ⟨by rfl,?y1⟩) hH ?r1
    case y1=>(intro w' jA;(try dsimp only at jA);obtain⟨u0,u1,u2,u3,u4,u5,u6,u7⟩:=jA;go_simp;try with_reducible rfl)
    case' r1=>try simp only [Act.put,qxa,qxb,qxc,qxd,qxe,qxf]
    refine wpAnyH_take (i:=2) (v := ?_) rfl (by kernel_rfl) (by kernel_rfl) (by kernel_rfl) (fun _ _ _ h=>h) (Or.inl ⟨by rfl,?y2⟩) hH ?r2
    case y2=>(intro w' jA;(try dsimp only at jA);obtain⟨u0,u1,u2,u3,u4,u5,u6,u7⟩:=jA;go_simp;try with_reducible rfl)
    case' r2=>try simp only [Act.put,qxa,qxb,qxc,qxd,qxe,qxf]
    refine wpAnyH_take (i:=3) (v := ?_) rfl (by kernel_rfl) (by kernel_rfl) (by kernel_rfl) (fun _ _ _ h=>h) (Or.inl ⟨by rfl,?y3⟩) hH ?r3
    case y3=>(intro w' jA;(try dsimp only at jA);obtain⟨u0,u1,u2,u3,u4,u5,u6,u7⟩:=jA;go_simp;try with_reducible rfl)
    case' r3=>try simp only [Act.put,qxa,qxb,qxc,qxd,qxe,qxf]
    refine wpAnyH_take (i:=4) (v := ?_) rfl (by kernel_rfl) (by kernel_rfl) (by kernel_rfl) (fun _ _ _ h=>h) (Or.inl ⟨by rfl,?y4⟩) hH ?r4
    case y4=>(intro w' jA;(try dsimp only at jA);obtain⟨u0,u1,u2,u3,u4,u5,u6,u7⟩:=jA;go_simp;try with_reducible rfl)
    case' r4=>try simp only [Act.put,qxa,qxb,qxc,qxd,qxe,qxf]
    refine wpAnyH_take (i:=5) (v := ?_) rfl (by kernel_rfl) (by kernel_rfl) (by kernel_rfl) (fun _ _ _ h=>h) (Or.inl ⟨by rfl,?y5⟩) hH ?r5
    case y5=>(intro w' jA;(try dsimp only at jA);obtain⟨u0,u1,u2,u3,u4,u5,u6,u7⟩:=jA;go_simp;try with_reducible rfl)
    case' r5=>try simp only [Act.put,qxa,qxb,qxc,qxd,qxe,qxf]
    refine wpAnyH_take (i:=6) (v := ?_) rfl (by kernel_rfl) (by kernel_rfl) (by kernel_rfl) (fun _ _ _ h=>h) (Or.inl ⟨by rfl,?y6⟩) hH ?r6
    case y6=>(intro w' jA;(try dsimp only at jA);obtain⟨u0,u1,u2,u3,u4,u5,u6,u7⟩:=jA;go_simp;try with_reducible rfl)
    case' r6=>try simp only [Act.put,qxa,qxb,qxc,qxd,qxe,qxf]
    refine wpAnyH_ready (rs:=[7]) (by kernel_rfl) (by simp) ?_;refine AllReadyH.cons (o:=({ dst:=some 19,op:=Op.call { callee:=Callee.value (Operand.func 168),args:=#[Operand.tmp 16,Operand.tmp 18],argTypes:=#[71,32] },type:=29,pos:= "reader.go:277",after:=#[{ on:=4,ground:=Ground.data },{ on:=6,ground:=Ground.data }],guard:=none } : Oper)) rfl (fun K hK => ?_) AllReadyH.nil
    go_simp
    go_at_call 168
    (with_reducible refine (hR).mono ?_)
    rintro e w6 ⟨f6,hp⟩;cases hres:Sx.zf3 ex xy.body (toks.drop q4) with
    | bad rest=>
     rw [hres] at hp;have hp:e=panS (zah len rest):=hp;subst hp;have HR:=qya hres;clear hres;go_wp2;refine⟨rfl,Fr.trans (Old.but O0 b) (Fr.trans yk (Fr.trans (Old.but o4 b) (Fr.trans (Fr.old (Old.refl _).drew) f6))),?_⟩;rw [HM.out,HR.out]
     try rfl
    | ok wu rest=>
     rw [hres] at hp;obtain⟨v6,q6,rfl,qq,uN,gv,h6,xs6,fh,lQ⟩:=hp;have HM:Hid (M0=.ok (.mk 7 0 xy.name xy.arg wu []) (toks.drop q6)):=qya (by rw [HM.out,hres,qq];try rfl);clear hres qq;obtain⟨l6,c6,rfl⟩:=zad fh.1;have qw:=HZ.out;have yx:=tX.out;have f46:But b (w4.alloc (.cells #[.string s,.string s4,.int .i64 jo,.int .i64 jr,.string jl,.string jV,.slice ji je jt,.slice ja jm jZ] 144)) w6:=Fr.trans (Fr.old (Old.refl _).drew) f6;have z46:=f46.size;have cA:=kV.keep f46 (by omega);have tT:But b qp w6:=Fr.trans yk (Fr.trans (Old.but o4 b) f46);have z06:=tT.size;have yH:=qD.keep tT (by omega);obtain⟨vM,kp,kr,kJ,ko,ki⟩:=yH.c6;obtain⟨kq,kn,ke,xk,xv,xz⟩:=yH.f6;have qJ:=yH.lt;refine hK.out _ _ ⟨cA.cell (i:=0) rfl,cA.cell (i:=1) rfl,cA.cell (i:=2) rfl,cA.cell (i:=3) rfl,cA.cell (i:=4) rfl,cA.cell (i:=5) rfl,cA.cell (i:=6) rfl,cA.cell (i:=7) rfl⟩ (fun hH2 => ?_);clear hK K
     try simp only [Act.put,qxa,qxb,qxc,qxd,qxe,qxf]
     refine wpAnyH_take (i:=8) (v := ?_) rfl (by kernel_rfl) (by kernel_rfl) (by kernel_rfl) (fun _ _ _ h=>h) (Or.inl ⟨by rfl,?y8⟩) hH2 ?r8
     case y8=>(intro w' jA;(try dsimp only at jA);go_simp;try with_reducible rfl)
     case' r8=>try simp only [Act.put,qxa,qxb,qxc,qxd,qxe,qxf]
     have S2:=((((((Fr.refl (fun k=>k=w.heap.size) w6).setCell ⟨w.heap.size,0,none⟩ (fun _=>rfl) (.int .i64 7)).setCell ⟨w.heap.size,1,none⟩ (fun _=>rfl) (.int .i64 0)).setCell ⟨w.heap.size,2,none⟩ (fun _=>rfl) (.string s)).setCell ⟨w.heap.size,3,none⟩ (fun _=>rfl) (.string s4)).setCell ⟨w.heap.size,4,none⟩ (fun _=>rfl) (.slice l6 wu.length c6)).setCell ⟨w.heap.size,5,none⟩ (fun _=>rfl) (.slice none 0 0);have k3:Blk ((((((w6.setCell ⟨w.heap.size,0,none⟩ (.int .i64 7)).setCell ⟨w.heap.size,1,none⟩ (.int .i64 0)).setCell ⟨w.heap.size,2,none⟩ (.string s)).setCell ⟨w.heap.size,3,none⟩ (.string s4)).setCell ⟨w.heap.size,4,none⟩ (.slice l6 wu.length c6)).setCell ⟨w.heap.size,5,none⟩ (.slice none 0 0)) w.heap.size #[.int .i64 7,.int .i64 0,.string s,.string s4,.slice l6 wu.length c6,.slice none 0 0] 32:=by
      have:=(((((yH.set 0 (.int .i64 7)).set 1 (.int .i64 0)).set 2 (.string s)).set 3 (.string s4)).set 4 (.slice l6 wu.length c6)).set 5 (.slice none 0 0);simpa only [qxd,qxe,qxf] using this
     have py:=cA.keep S2 (by omega);clear qw yx;refine wpAnyH_ready (rs:=[9]) (by kernel_rfl) (by simp) ?_;refine AllReadyH.cons rfl (fun K hK => ?_) AllReadyH.nil
     go_simp
     refine hK.out _ _ ⟨py.cell (i:=0) rfl,py.cell (i:=1) rfl,py.cell (i:=2) rfl,py.cell (i:=3) rfl,py.cell (i:=4) rfl,py.cell (i:=5) rfl,py.cell (i:=6) rfl,py.cell (i:=7) rfl⟩ (fun eo => ?_);clear hK K;refine wpAnyH_done (by kernel_rfl) ?_ _
     try simp only [Act.put,qxa,qxb,qxc,qxd,qxe,qxf]
     clear hH hH2 eo;obtain⟨Wf,qv⟩ : ∃W1,(((((w6.setCell ⟨w.heap.size,0,none⟩ (.int .i64 7)).setCell ⟨w.heap.size,1,none⟩ (.int .i64 0)).setCell ⟨w.heap.size,2,none⟩ (.string s)).setCell ⟨w.heap.size,3,none⟩ (.string s4)).setCell ⟨w.heap.size,4,none⟩ (.slice l6 wu.length c6)).setCell ⟨w.heap.size,5,none⟩ (.slice none 0 0)=W1:=⟨_,rfl⟩;rw [qv] at S2 k3 ⊢;clear qv;obtain⟨qP,qC,qA,jv,jz,jj⟩:=k3.c6;go_wp2;refine bodyPost_ret (v:=.agg #[.int .i64 7,.int .i64 0,.string s,.string s4,.slice l6 wu.length c6,.slice none 0 0]) (by simp [results,Tryz.results91,go_sem,qP,qC,qA,jv,jz,jj]) rfl ?_;have qw:=HZ.out;have yx:=tX.out;have z3:=S2.size;refine⟨(Fr.trans (Old.but O0 b) tT).trans' S2 (fun k hk e=>by omega),?_⟩;rw [HM.out];refine⟨_,q6,rfl,rfl,by omega,gv,h6.keep S2 (by omega) (fun g hg=>by have:=qQ g hg;omega),?_⟩;rw [ExAt];have fl : ∀k,((w2.heap.size≤k∧k<w4.heap.size)∨((w4.alloc (.cells #[.string s,.string s4,.int .i64 jo,.int .i64 jr,.string jl,.string jV,.slice ji je jt,.slice ja jm jZ] 144)).drew.heap.size≤k∧k<w6.heap.size))→w.heap.size≤k∧k<Wf.heap.size:=fun k hk=>by
      have:(w4.alloc (.cells #[.string s,.string s4,.int .i64 jo,.int .i64 jr,.string jl,.string jV,.slice ji je jt,.slice ja jm jZ] 144)).drew.heap.size=w4.heap.size+1:=yx;omega
     have zh : ∀k,((w2.heap.size≤k∧k<w4.heap.size)∨((w4.alloc (.cells #[.string s,.string s4,.int .i64 jo,.int .i64 jr,.string jl,.string jV,.slice ji je jt,.slice ja jm jZ] 144)).drew.heap.size≤k∧k<w6.heap.size))→¬(k=w.heap.size):=fun k hk e=>by
      have:(w4.alloc (.cells #[.string s,.string s4,.int .i64 jo,.int .i64 jr,.string jl,.string jV,.slice ji je jt,.slice ja jm jZ] 144)).drew.heap.size=w4.heap.size+1:=yx;omega
     exact⟨_,xs6,_,[],by rw [← HS.out,← HS4.out,zcf,zcf],(fh.keep S2 zh).more fl,ExsAt.more fl _ _ (lQ.keep S2 zh),RowAt.none _ _ _ _,by rw [PasAt]⟩
theorem zyb:(Tryz.prog.info? 32).map (fun i=>(i.zero,i.size,i.bytes))=some (some (.agg #[.int .i64 0,.int .i64 0,.string ⟨#[]⟩,.string ⟨#[]⟩,.slice none 0 0,.slice none 0 0]),6,96):=by kernel_rfl
theorem snocE{Q:Exit→Act→World→Prop}{ops:Array Oper}(ft:zf5 6 (Tryz.f282.body.getD .skip)=some ops)
  (hP : ∀c (a:Act) d u w,Q (.panic c) (a.put d u) w→Q (.panic c) a w)
  (x0 x1 x2 x3 x4 x5 x6 x8 ym yr yn yb x14 x15 x16 x17 x18 x19 x20 x21 x22 x23 x24 x25:Value)(ds:List Deferred)(w:World)(R V base n:Nat)(v:Value)(xs:List Value)(kd nu:Int)(nm ag:ByteArray)(l2:Option Addr)(n2 c2:Nat)(l4:Option Addr)(n4 c4:Nat)
  (hR:Blk w R #[v] 29)(hV:Blk w V #[.int .i64 kd,.int .i64 nu,.string nm,.string ag,.slice l2 n2 c2,.slice l4 n4 c4] 32)(mv:v.ownBlock≠some V)(qz:w.ownsRow base 32 6 v n xs)(hb:base≤w.heap.size)(hn:n≤1000000)
  (hQ : ∀a w',zmn 32 29 6 w base R v n xs [.int .i64 kd,.int .i64 nu,.string nm,.string ag,.slice l2 n2 c2,.slice l4 n4 c4] ds a w'→Q .normal a w') :
  wpAny Tryz.prog .any ops Q ops.size (Array.replicate ops.size false) { tmps:=#[x0,x1,x2,x3,x4,x5,x6,.pointer (some ⟨R,0,none⟩),x8,.pointer (some ⟨V,0,none⟩),ym,yr,yn,yb,x14,x15,x16,x17,x18,x19,x20,x21,x22,x23,x24,x25],defers:=ds } w.drew:=by
 simp only [Tryz.f282,Option.getD_some,zf5,Option.orElse_none,Option.orElse_some,Option.some.injEq,Nat.reduceEqDiff,if_false,if_true,reduceIte] at ft;subst ft;have hRV:R≠V:=by
  rintro rfl;unfold Blk at hR hV;rw [hR] at hV;cases hV
 obtain⟨la,qt,rfl⟩:=zad qz;have uF:=hR.drew;have xl:=hV.drew;have vk:=qz.drew;have gw:Old w w.drew:=(Old.refl w).drew;obtain⟨W,hW⟩ : ∃W,w.drew=W:=⟨_,rfl⟩;have qY:W.heap.size=w.heap.size:=by rw [← hW];rfl
 rw [hW] at uF xl vk gw ⊢;clear hW;have r0:=uF.c 0 (.slice la n qt) rfl;obtain⟨v0,v1,v2,v3,v4,v5⟩:=xl.c6;have qJ:=uF.lt;have hVl:=xl.lt;obtain⟨W1,qd⟩ : ∃W1,W.alloc (.cells #[.int .i64 0,.int .i64 0,.string ⟨#[]⟩,.string ⟨#[]⟩,.slice none 0 0,.slice none 0 0] 32)=W1:=⟨_,rfl⟩;have vQ:Blk W1 R #[.slice la n qt] 29:=by rw [← qd];exact uF.alloc _
 have my:Blk W1 V #[.int .i64 kd,.int .i64 nu,.string nm,.string ag,.slice l2 n2 c2,.slice l4 n4 c4] 32:=by rw [← qd];exact xl.alloc _
 have fd:W1.ownsRow base 32 6 (.slice la n qt) n xs:=by rw [← qd];exact vk.alloc _
 have bK:W1.heap.size=w.heap.size+1:=by rw [← qd,qyd,qY]
 have qR : ∀j u,[Value.int .i64 0,.int .i64 0,.string ⟨#[]⟩,.string ⟨#[]⟩,.slice none 0 0,.slice none 0 0][j]? = some u→W1.cell? ((⟨w.heap.size,0,none⟩:Addr).add j)=some u:=by
  rw [← qd,← qY];exact World.news_of_block (Blk.new W #[.int .i64 0,.int .i64 0,.string ⟨#[]⟩,.string ⟨#[]⟩,.slice none 0 0,.slice none 0 0] 32)
 have F1:Old w W1:=by rw [← qd];exact gw.alloc _
 have HF1:=qya F1;clear F1;have yy:(((((((xs++[Value.int .i64 0,.int .i64 0,.string ⟨#[]⟩,.string ⟨#[]⟩,.slice none 0 0,.slice none 0 0]).set (n*6) (.int .i64 kd)).set (n*6+1) (.int .i64 nu)).set (n*6+2) (.string nm)).set (n*6+3) (.string ag)).set (n*6+4) (.slice l2 n2 c2)).set (n*6+5) (.slice l4 n4 c4))=xs++[.int .i64 kd,.int .i64 nu,.string nm,.string ag,.slice l2 n2 c2,.slice l4 n4 c4]:=by
  have:=qz.1;rw [List.set_append_right _ _ (by omega),List.set_append_right _ _ (by omega),List.set_append_right _ _ (by omega),List.set_append_right _ _ (by omega),List.set_append_right _ _ (by omega),List.set_append_right _ _ (by omega),this];simp
 have ra0:=vQ.c 0 (.slice la n qt) rfl;obtain⟨pB,pC,no,va3,va4,va5⟩:=my.c6;have xR:=qz.1;have mw:(Value.slice la n qt).ownBlock≠some R:=by
  intro e;rcases qz.2 with ⟨h,_⟩ | ⟨g,cap,vy,hv,_,hh,_⟩
  ·rw [h] at e;cases e
  ·rw [hv] at e;cases e;unfold Blk at hR;rw [hR] at hh;cases hh
 obtain⟨i0,hi,qw,j5,jE⟩:=info_parts zyb;have vS:=qya qd;clear qd;refine wpAny_of_held (S:=fun w'=>w'.cell? ⟨V,0,none⟩=some (.int .i64 kd)∧w'.cell? ⟨V,1,none⟩=some (.int .i64 nu)∧w'.cell? ⟨V,2,none⟩=some (.string nm)∧w'.cell? ⟨V,3,none⟩=some (.string ag)∧w'.cell? ⟨V,4,none⟩=some (.slice l2 n2 c2)∧w'.cell? ⟨V,5,none⟩=some (.slice l4 n4 c4)) _ _ _ _ ?_;refine wpAnyH_take (i:=1) (v := ?_) rfl (by kernel_rfl) (by kernel_rfl) (by kernel_rfl) (fun _ _ _ h=>hP _ _ _ _ _ h) (Or.inl ⟨by rfl,?y1⟩) ⟨v0,v1,v2,v3,v4,v5⟩ ?r1
 case y1=>(intro w' jA;(try dsimp only at jA);obtain⟨h0,h1,h2,h3,h4,h5⟩:=jA;go_simp;try with_reducible rfl)
 case' r1=>try simp only [Act.put,qxa,qxb,qxc,qxd,qxe,qxf]
 refine wpAnyH_ready (rs:=[0,3]) (by kernel_rfl) (by simp) ?_;refine AllReadyH.cons rfl (fun K hK => ?w0) (AllReadyH.cons rfl (fun K hK => ?w3) AllReadyH.nil)
 case' w0=>
  go_simp
  refine hK.out _ _ ⟨v0,v1,v2,v3,v4,v5⟩ (fun hH => ?_);clear hK K;refine wpAnyH_take (i:=2) (v := ?_) rfl (by kernel_rfl) (by kernel_rfl) (by kernel_rfl) (fun _ _ _ h=>hP _ _ _ _ _ h) (Or.inl ⟨by rfl,?y2⟩) ⟨v0,v1,v2,v3,v4,v5⟩ ?r2
  case y2=>(intro w' jA;go_simp;try with_reducible rfl)
  case' r2=>try simp only [Act.put,qxa,qxb,qxc,qxd,qxe,qxf]
  refine wpAnyH_ready (rs:=[3]) (by kernel_rfl) (by simp) ?_;refine AllReadyH.cons rfl (fun K hK => ?_) AllReadyH.nil
  go_simp
  rw [vS.out];refine hK.out _ _ ⟨pB,pC,no,va3,va4,va5⟩ (fun hH => ?_);clear hK K
  try simp only [Act.put,qxa,qxb,qxc,qxd,qxe,qxf]
 case' w3=>
  go_simp
  rw [vS.out];refine hK.out _ _ ⟨pB,pC,no,va3,va4,va5⟩ (fun hH => ?_);clear hK K
  try simp only [Act.put,qxa,qxb,qxc,qxd,qxe,qxf]
  refine wpAnyH_ready (rs:=[0]) (by kernel_rfl) (by simp) ?_;refine AllReadyH.cons rfl (fun K hK => ?_) AllReadyH.nil
  go_simp
  refine hK.out _ _ ⟨pB,pC,no,va3,va4,va5⟩ (fun hH => ?_);clear hK K;refine wpAnyH_take (i:=2) (v := ?_) rfl (by kernel_rfl) (by kernel_rfl) (by kernel_rfl) (fun _ _ _ h=>hP _ _ _ _ _ h) (Or.inl ⟨by rfl,?y3⟩) ⟨pB,pC,no,va3,va4,va5⟩ ?r3
  case y3=>(intro w' jA;go_simp;try with_reducible rfl)
  case' r3=>try simp only [Act.put,qxa,qxb,qxc,qxd,qxe,qxf]
 all_goals
  refine wpAnyH_ready (rs:=[4]) (by kernel_rfl) (by simp) ?_;refine AllReadyH.cons rfl (fun K hK => ?_) AllReadyH.nil;refine step_append_lies _ rfl _ _ 29 rfl base 32 i0 (.agg #[.int .i64 0,.int .i64 0,.string ⟨#[]⟩,.string ⟨#[]⟩,.slice none 0 0,.slice none 0 0]) 6 96 Tryz.underlying29 hi qw j5 jE rfl (by decide) _ n xs rfl fd ⟨w.heap.size,0,none⟩ 1 1 [.int .i64 0,.int .i64 0,.string ⟨#[]⟩,.string ⟨#[]⟩,.slice none 0 0,.slice none 0 0] rfl rfl qR (by intro u hu;simp at hu;rcases hu with rfl | rfl | rfl | rfl | rfl | rfl <;> rfl) (by decide) (by unfold maxLen;omega) (by omega) (by omega) (w.heap.size+1) bK ?_;intro g cap w3 qf vF qZ uw;have F3:Fr (fun k=>(Value.slice la n qt).ownBlock=some k) W1 w3:=(Fr.refl _ W1).grown vF (fun k e _=>e);have yg:Blk w3 V #[.int .i64 kd,.int .i64 nu,.string nm,.string ag,.slice l2 n2 c2,.slice l4 n4 c4] 32:=my.keep F3 (fun e=>mv e);have vf:Blk w3 R #[.slice la n qt] 29:=vQ.keep F3 (fun e=>mw e);have r3:=vf.c 0 (.slice la n qt) rfl;have e3:=vf.free 0;obtain⟨qr,ju,xS,p8,tL,bi⟩:=yg.c6;have xm : ¬g=R:=fun e=>qZ.elim (fun h=>mw (e▸h)) (fun h=>by omega);have hgV : ¬g=V:=fun e=>qZ.elim (fun h=>mv (e▸h)) (fun h=>by omega);have uq : ¬R=g:=fun e=>xm e.symm;have y9 : ¬V=g:=fun e=>hgV e.symm;have mx : ¬V=R:=fun e=>hRV e.symm;have cc0:w3.cell? ⟨g,n*6,none⟩=some (.int .i64 0):=by rw [qf.cellAt (n*6) (by omega)];simp [xR]
  have f0:=qf.frozenAt (n*6);have cc1:w3.cell? ⟨g,n*6+1,none⟩=some (.int .i64 0):=by rw [qf.cellAt (n*6+1) (by omega)];simp [xR]
  have f1:=qf.frozenAt (n*6+1);have cc2:w3.cell? ⟨g,n*6+2,none⟩=some (.string ⟨#[]⟩):=by rw [qf.cellAt (n*6+2) (by omega)];simp [xR]
  have f2:=qf.frozenAt (n*6+2);have cc3:w3.cell? ⟨g,n*6+3,none⟩=some (.string ⟨#[]⟩):=by rw [qf.cellAt (n*6+3) (by omega)];simp [xR]
  have f3:=qf.frozenAt (n*6+3);have cc4:w3.cell? ⟨g,n*6+4,none⟩=some (.slice none 0 0):=by rw [qf.cellAt (n*6+4) (by omega)];simp [xR]
  have f4:=qf.frozenAt (n*6+4);have cc5:w3.cell? ⟨g,n*6+5,none⟩=some (.slice none 0 0):=by rw [qf.cellAt (n*6+5) (by omega)];simp [xR]
  have f5:=qf.frozenAt (n*6+5);have hni:(n:Int)<(n:Int)+1:=by omega
  have uZ:Fr (fun k=>k=R∨(Value.slice la n qt).ownBlock=some k) w w3:=(Fr.old HF1.out).grown vF (fun k e _=>.inr e);have yA:g<w.heap.size→g=R∨(Value.slice la n qt).ownBlock=some g:=fun hl=>qZ.elim .inr (fun h=>by omega);have HF:=qya uZ;clear F3 uZ;refine hK.out _ _ ⟨qr,ju,xS,p8,tL,bi⟩ (fun hH2 => ?_);clear hK K
  try simp only [Act.put,qxa,qxb,qxc,qxd,qxe,qxf]
  refine wpAnyH_take (i:=5) (v := ?_) rfl (by kernel_rfl) (by kernel_rfl) (by kernel_rfl) (fun _ _ _ h=>hP _ _ _ _ _ h) (Or.inl ⟨by rfl,?_⟩) ⟨qr,ju,xS,p8,tL,bi⟩ ?_
  rotate_left 1
  ·(intro w' jA;go_simp;try with_reducible rfl)
  try simp only [Act.put,qxa,qxb,qxc,qxd,qxe,qxf]
  refine wpAnyH_ready (rs:=[6,7]) (by kernel_rfl) (by simp) ?_;refine AllReadyH.cons rfl (fun K hK => ?_) (AllReadyH.cons rfl (fun K hK => ?_) AllReadyH.nil)
  ·go_simp
   have uQ:=((((((yg.other ⟨g,n*6,none⟩ y9 (.int .i64 kd)).other ⟨g,n*6+1,none⟩ y9 (.int .i64 nu)).other ⟨g,n*6+2,none⟩ y9 (.string nm)).other ⟨g,n*6+3,none⟩ y9 (.string ag)).other ⟨g,n*6+4,none⟩ y9 (.slice l2 n2 c2)).other ⟨g,n*6+5,none⟩ y9 (.slice l4 n4 c4));have uJ:=((((((vf.other ⟨g,n*6,none⟩ uq (.int .i64 kd)).other ⟨g,n*6+1,none⟩ uq (.int .i64 nu)).other ⟨g,n*6+2,none⟩ uq (.string nm)).other ⟨g,n*6+3,none⟩ uq (.string ag)).other ⟨g,n*6+4,none⟩ uq (.slice l2 n2 c2)).other ⟨g,n*6+5,none⟩ uq (.slice l4 n4 c4));have vm:=((((((qf.stored (n*6) (.int .i64 kd)).1.stored (n*6+1) (.int .i64 nu)).1.stored (n*6+2) (.string nm)).1.stored (n*6+3) (.string ag)).1.stored (n*6+4) (.slice l2 n2 c2)).1.stored (n*6+5) (.slice l4 n4 c4)).1;rw [yy] at vm;have kl:=((((((HF.out.setCell ⟨g,n*6,none⟩ yA (.int .i64 kd)).setCell ⟨g,n*6+1,none⟩ yA (.int .i64 nu)).setCell ⟨g,n*6+2,none⟩ yA (.string nm)).setCell ⟨g,n*6+3,none⟩ yA (.string ag)).setCell ⟨g,n*6+4,none⟩ yA (.slice l2 n2 c2)).setCell ⟨g,n*6+5,none⟩ yA (.slice l4 n4 c4));obtain⟨wA,gA⟩ : ∃wA,(((((w3.setCell ⟨g,n*6,none⟩ (.int .i64 kd)).setCell ⟨g,n*6+1,none⟩ (.int .i64 nu)).setCell ⟨g,n*6+2,none⟩ (.string nm)).setCell ⟨g,n*6+3,none⟩ (.string ag)).setCell ⟨g,n*6+4,none⟩ (.slice l2 n2 c2)).setCell ⟨g,n*6+5,none⟩ (.slice l4 n4 c4)=wA:=⟨_,rfl⟩;rw [gA] at uQ uJ vm kl ⊢;clear gA;obtain⟨cD,cP,mN,wa3,wa4,wa5⟩:=uQ.c6;have rA:=uJ.c 0 (.slice la n qt) rfl;have eA:=uJ.free 0;have yj:=uQ.other ⟨R,0,none⟩ mx (.slice (some ⟨g,0,none⟩) (n+1) cap);have tP:=qya kl;clear kl;refine hK.out _ _ ⟨cD,cP,mN,wa3,wa4,wa5⟩ (fun eo => ?_);clear hK K
   try simp only [Act.put,qxa,qxb,qxc,qxd,qxe,qxf]
   refine wpAnyH_ready (rs:=[7]) (by kernel_rfl) (by simp) ?_;refine AllReadyH.cons rfl (fun K hK => ?_) AllReadyH.nil
   go_simp
   refine hK.out _ _ ⟨yj.cell (i:=0) rfl,yj.cell (i:=1) rfl,yj.cell (i:=2) rfl,yj.cell (i:=3) rfl,yj.cell (i:=4) rfl,yj.cell (i:=5) rfl⟩ (fun hH4 => ?_);refine wpAnyH_done (by kernel_rfl) ?_ _;refine hQ _ _ ⟨rfl,g,cap,zaa vm (((Fr.refl (fun k=>k=R) wA).setCell ⟨R,0,none⟩ (fun _=>rfl) _)) (fun k hk e => ?_),uJ.set 0 _,tP.out.setCell ⟨R,0,none⟩ (fun _=>.inl rfl) _,qZ.imp id (fun h=>by omega),xm⟩;cases hk;exact xm e
  ·go_simp
   have uQ:=yg.other ⟨R,0,none⟩ mx (.slice (some ⟨g,0,none⟩) (n+1) cap);have uJ:=vf.set 0 (.slice (some ⟨g,0,none⟩) (n+1) cap);have vm:=zaa qf ((Fr.refl (fun k=>k=R) w3).setCell ⟨R,0,none⟩ (fun _=>rfl) (.slice (some ⟨g,0,none⟩) (n+1) cap)) (fun k hk e=>by cases hk;exact xm e);have kl:=HF.out.setCell ⟨R,0,none⟩ (fun _=>.inl rfl) (.slice (some ⟨g,0,none⟩) (n+1) cap);obtain⟨wA,gA⟩ : ∃wA,w3.setCell ⟨R,0,none⟩ (.slice (some ⟨g,0,none⟩) (n+1) cap)=wA:=⟨_,rfl⟩;rw [gA] at uQ uJ vm kl ⊢;clear gA;obtain⟨cD,cP,mN,wa3,wa4,wa5⟩:=uQ.c6;have fU:wA.cell? ⟨g,n*6,none⟩=some (.int .i64 0):=(by rw [vm.cellAt (n*6) (by omega)];simp [xR]);have fa0:=vm.frozenAt (n*6);have cU:wA.cell? ⟨g,n*6+1,none⟩=some (.int .i64 0):=(by rw [vm.cellAt (n*6+1) (by omega)];simp [xR]);have fa1:=vm.frozenAt (n*6+1);have jD:wA.cell? ⟨g,n*6+2,none⟩=some (.string ⟨#[]⟩):=(by rw [vm.cellAt (n*6+2) (by omega)];simp [xR]);have fa2:=vm.frozenAt (n*6+2);have mY:wA.cell? ⟨g,n*6+3,none⟩=some (.string ⟨#[]⟩):=(by rw [vm.cellAt (n*6+3) (by omega)];simp [xR]);have fa3:=vm.frozenAt (n*6+3);have jt:wA.cell? ⟨g,n*6+4,none⟩=some (.slice none 0 0):=(by rw [vm.cellAt (n*6+4) (by omega)];simp [xR]);have fa4:=vm.frozenAt (n*6+4);have zS:wA.cell? ⟨g,n*6+5,none⟩=some (.slice none 0 0):=(by rw [vm.cellAt (n*6+5) (by omega)];simp [xR]);have fa5:=vm.frozenAt (n*6+5);have yj:=((((((uQ.other ⟨g,n*6,none⟩ y9 (.int .i64 kd)).other ⟨g,n*6+1,none⟩ y9 (.int .i64 nu)).other ⟨g,n*6+2,none⟩ y9 (.string nm)).other ⟨g,n*6+3,none⟩ y9 (.string ag)).other ⟨g,n*6+4,none⟩ y9 (.slice l2 n2 c2)).other ⟨g,n*6+5,none⟩ y9 (.slice l4 n4 c4));have tP:=qya kl;clear kl;refine hK.out _ _ ⟨cD,cP,mN,wa3,wa4,wa5⟩ (fun eo => ?_);clear hK K
   try simp only [Act.put,qxa,qxb,qxc,qxd,qxe,qxf]
   refine wpAnyH_ready (rs:=[6]) (by kernel_rfl) (by simp) ?_;refine AllReadyH.cons rfl (fun K hK => ?_) AllReadyH.nil
   go_simp
   refine hK.out _ _ ⟨yj.cell (i:=0) rfl,yj.cell (i:=1) rfl,yj.cell (i:=2) rfl,yj.cell (i:=3) rfl,yj.cell (i:=4) rfl,yj.cell (i:=5) rfl⟩ (fun hH4 => ?_);refine wpAnyH_done (by kernel_rfl) ?_ _;have mf:=((((((vm.stored (n*6) (.int .i64 kd)).1.stored (n*6+1) (.int .i64 nu)).1.stored (n*6+2) (.string nm)).1.stored (n*6+3) (.string ag)).1.stored (n*6+4) (.slice l2 n2 c2)).1.stored (n*6+5) (.slice l4 n4 c4)).1;rw [yy] at mf;exact hQ _ _ ⟨rfl,g,cap,mf,((((((uJ.other ⟨g,n*6,none⟩ uq (.int .i64 kd)).other ⟨g,n*6+1,none⟩ uq (.int .i64 nu)).other ⟨g,n*6+2,none⟩ uq (.string nm)).other ⟨g,n*6+3,none⟩ uq (.string ag)).other ⟨g,n*6+4,none⟩ uq (.slice l2 n2 c2)).other ⟨g,n*6+5,none⟩ uq (.slice l4 n4 c4)),((((((tP.out.setCell ⟨g,n*6,none⟩ yA (.int .i64 kd)).setCell ⟨g,n*6+1,none⟩ yA (.int .i64 nu)).setCell ⟨g,n*6+2,none⟩ yA (.string nm)).setCell ⟨g,n*6+3,none⟩ yA (.string ag)).setCell ⟨g,n*6+4,none⟩ yA (.slice l2 n2 c2)).setCell ⟨g,n*6+5,none⟩ yA (.slice l4 n4 c4)),qZ.imp id (fun h=>by omega),xm⟩
end Go.Proofs.YtclgbmmambkiaaaGreatDoor
namespace Go.Proofs.YtclgbmmambkiaaaGreatDoor.E
open Go.RowKit
attribute [local go_sem] Oper.semAt_some
theorem own_ne_one{w:World}{base:Nat}{e:TypeId}{v u:Value}{n:Nat}{xs:List Value}{T:TypeId}(h:w.ownsRow base e 6 v n xs){k:Nat}(hk:v.ownBlock=some k)(ho:Blk w k #[u] T):False:=by
 rcases h.2 with ⟨hv,_⟩ | ⟨g,cap,vy,hv,_,hh,_,_,hc,_⟩
 ·rw [hv] at hk;cases hk
 ·rw [hv] at hk;cases hk;unfold Blk at ho;rw [ho] at hh;cases hh;simp at hc;omega
structure ManyAt(w0:World)(b A E R l D:Nat)(bf ef:Value)(st:Loop)(ts:List Sx.Ex)(W:World):Prop where
 bg : ∃T,Blk W A #[bf] T
 el : ∃T,Blk W E #[ef] T
 box : ∃v xs F,Blk W R #[v] 29∧W.ownsRow w0.heap.size 32 6 v ts.length xs∧ExsAt W F ts xs∧∀k,F k→w0.heap.size≤k∧k<W.heap.size∧k≠R∧k≠l∧v.ownBlock≠some k∧k≠D
 L:W.heap[l]? = some (.loop st)
 K:W.heap[D]? = some (.deferred (some []))
 but:But b w0 W
theorem ManyAt.old{w0:World}{b A E R l D:Nat}{bf ef:Value}{st:Loop}{ts:List Sx.Ex}{W W':World}(h:ManyAt w0 b A E R l D bf ef st ts W)(hb:b<w0.heap.size)(hA:b<A)(hE:b<E)(hR:b<R)(hl:b<l)(hD:b<D)(hf:But b W W'):ManyAt w0 b A E R l D bf ef st ts W':=by
 obtain⟨v,xs,F,h1,h2,h3,h4⟩:=h.box;obtain⟨TA,kx⟩:=h.bg;obtain⟨TE,q9⟩:=h.el;refine⟨⟨TA,kx.keep hf (by omega)⟩,⟨TE,q9.keep hf (by omega)⟩,⟨v,xs,F,h1.keep hf (by omega),zaa h2 hf (fun k hk e => ?_),h3.keep hf (fun k hk e => ?_),fun k hk => ?_⟩,hf.heap h.L (by omega),hf.heap h.K (by omega),h.but.trans hf⟩
 ·have:=(h2.lt k hk).1;omega
 ·have:=(h4 k hk).1;omega
 ·obtain⟨g1,g2,g3⟩:=h4 k hk;exact⟨g1,qyc g2 hf.size,g3⟩
theorem ManyAt.loop{w0:World}{b A E R l D:Nat}{bf ef:Value}{st gS:Loop}{ts:List Sx.Ex}{W W':World}(h:ManyAt w0 b A E R l D bf ef st ts W)(hl:w0.heap.size≤l)(xd:A≠l)(yh:E≠l)(qJ:R≠l)(yB:D≠l)(hf:Fr (fun k=>k=b∨k=l) W W')(hA:A≠b)(hE:E≠b)(hR:R≠b)(hD:D≠b)(hb:b<w0.heap.size)(hL:W'.heap[l]? = some (.loop gS)):ManyAt w0 b A E R l D bf ef gS ts W':=by
 obtain⟨v,xs,F,h1,h2,h3,h4⟩:=h.box;obtain⟨TA,kx⟩:=h.bg;obtain⟨TE,q9⟩:=h.el;have tA : ∀k,v.ownBlock=some k→k≠l:=fun k hk e=>by
  subst e;rcases h2.2 with ⟨hv,_⟩ | ⟨g,cap,vy,hv,_,hh,_⟩
  ·rw [hv] at hk;cases hk
  ·rw [hv] at hk;cases hk;rw [h.L] at hh;cases hh
 refine⟨⟨TA,kx.keep hf (by omega)⟩,⟨TE,q9.keep hf (by omega)⟩,⟨v,xs,F,h1.keep hf (by omega),zaa h2 hf (fun k hk e => ?_),h3.keep hf (fun k hk e => ?_),fun k hk => ?_⟩,hL,hf.heap h.K (by omega),h.but.trans' hf ?_⟩
 ·have:=(h2.lt k hk).1;have:=tA k hk;omega
 ·obtain⟨g1,g2,g3,g4,g5⟩:=h4 k hk;omega
 ·obtain⟨g1,g2,g3⟩:=h4 k hk;exact⟨g1,qyc g2 hf.size,g3⟩
 ·intro k hk e;rcases e with e | e
  ·exact e
  ·omega
def ManyJ(w0:World)(b A E R l D:Nat)(bf ef:Value)(qj:LoopState→Option Code→Loop)(la:Option Addr)(lc:Nat)(L:List RT)(toks:List Lx.Tok)(q0:Nat)(bg:Lx.Tok→Bool)(el:List Lx.Tok→Sx.Res Sx.Ex)(M0:Sx.Res (List Sx.Ex))(q:Nat)(W:World):Prop:=
 ∃ts m,ManyAt w0 b A E R l D bf ef (qj .ready none) ts W∧Rd W b la lc L q∧q≤toks.length∧toks.length-q≤m∧q0+ts.length≤q∧M0=(Sx.many bg el m (toks.drop q)).map (ts ++ ·)
def ManyF(w0:World)(b A E R l D:Nat)(bf ef:Value)(qj:LoopState→Option Code→Loop)(la:Option Addr)(lc:Nat)(L:List RT)(toks:List Lx.Tok)(q0:Nat)(M0:Sx.Res (List Sx.Ex))(W:World):Prop:=
 ∃ts q,ManyAt w0 b A E R l D bf ef (qj .done (some (.exit 0))) ts W∧Rd W b la lc L q∧q≤toks.length∧q0+ts.length≤q∧M0=.ok ts (toks.drop q)
def ManyP(w0:World)(b D:Nat)(len:Int)(M0:Sx.Res (List Sx.Ex))(c:List PanicEntry)(W:World):Prop:=
 ∃rest,M0=.bad rest∧Ending.panicked c=panS (zah len rest)∧But b w0 W∧W.heap[D]? = some (.deferred (some []))
theorem manyX_yield(n:Nat)(w0:World)(b A E R l D:Nat)(hb:b<w0.heap.size)(hA:w0.heap.size≤A)(hE:w0.heap.size≤E)(hR:w0.heap.size≤R)(hl:w0.heap.size≤l)(hD:w0.heap.size≤D)(xd:A≠l)(yh:E≠l)(qJ:R≠l)(yB:D≠l)(rT:A≠R)(eJ:E≠R)(rD:D≠R)
  (Ac Bc:Code)(jI:zay (Tryz.f282.body.getD .skip)=some (Ac,Bc))(tm:Array Value)
  (f0 f1 f2 f3 f6 f8 f9 fY uL gm gr f14 gn gt gd gf fX fK fV fZ pG dL tl:Value)
  (jS:tm=#[f0,f1,f2,f3,.pointer (some ⟨A,0,none⟩),.pointer (some ⟨E,0,none⟩),f6,.pointer (some ⟨R,0,none⟩),f8,f9,fY,uL,gm,gr,f14,gn,gt,gd,gf,fX,fK,fV,fZ,pG,dL,tl])
  (qj:LoopState→Option Code→Loop)(qu:qj=fun st pe => { state:=st,pending:=pe,fn:=282,tmps:=tm,params:=#[12],assign:=Ac,body:=Bc,defers:=D })
  (la:Option Addr)(lc:Nat)(L:List RT)(toks:List Lx.Tok)(len:Int)(hL:RtOf L toks len)(qE : ∀g,la=some g→g.block<w0.heap.size)
  (bg:Lx.Tok→Bool)(kx : ∀(t:Lx.Tok) (W:World),Calls Tryz.prog 283 #[rtV (rt t)] W fun e W'=>e=.returned (.bool (bg t))∧Old W W')
  (q0:Nat)(el:List Lx.Tok→Sx.Res Sx.Ex)(q9 : ∀(q:Nat) (W:World),q0≤q→Rd W b la lc L q→q<toks.length→Calls Tryz.prog 284 #[.pointer (some ⟨b,0,none⟩)] W (zaf ExAt b la lc L toks len (el (toks.drop q)) q W))
  (M0:Sx.Res (List Sx.Ex))(q:Nat)(x:RT)(W:World)(hx:L[q]? = some x)(hk:x.k≠0)
  (h:ManyJ w0 b A E R l D (.func (.func 283) #[] #[]) (.func (.func 284) #[.pointer (some ⟨b,0,none⟩)] #[]) qj la lc L toks q0 bg el M0 q W) :
  YieldAt Fence.wide n Tryz.prog l #[rtV x] W (zdj (ManyJ w0 b A E R l D (.func (.func 283) #[] #[]) (.func (.func 284) #[.pointer (some ⟨b,0,none⟩)] #[]) qj la lc L toks q0 bg el M0) q
   (ManyF w0 b A E R l D (.func (.func 283) #[] #[]) (.func (.func 284) #[.pointer (some ⟨b,0,none⟩)] #[]) qj la lc L toks q0 M0) (ManyP w0 b D len M0)):=by
 obtain⟨ts,m,hM,jc,dU,hm,ci,qV⟩:=h;obtain⟨t,r,hq,qW,rfl⟩:=zep hL hx hk;have km:=hM.L;have vP:=km;rw [qu] at vP;refine⟨282,_,Ac,Bc,run_yield (P:=Tryz.prog) (args:=#[rtV (rt t)]) vP rfl,roundIn_of_wpIn_panics (F:=Fence.wide) (fn:=Tryz.f282) trivial Tryz.func282 ?_⟩;have j8:=jI;simp only [Tryz.f282,Option.getD_some,zay,Option.orElse_none,Option.orElse_some,Option.some.injEq,Prod.mk.injEq] at j8;obtain⟨yp,kw⟩:=j8;rw [jS];simp only [Array.foldl,Array.zip,List.zip];rw [← yp];clear jI yp vP;gi_wp2;obtain⟨W1,qd⟩ : ∃W1,W.alloc (.cells #[.int .i64 (rt t).k,.int .i64 (rt t).n,.string (rt t).s,.int .i64 (rt t).a] 59)=W1:=⟨_,rfl⟩;rw [qd];have nT:Blk W1 W.heap.size #[.int .i64 (rt t).k,.int .i64 (rt t).n,.string (rt t).s,.int .i64 (rt t).a] 59:=by rw [← qd];exact Blk.new _ _ _
 have O1:Old W W1:=by rw [← qd];exact (Old.refl W).alloc _
 have L1:W1.heap[l]? = some (.loop (qj .ready none)):=O1.heap km (by simp);clear qd;refine⟨_,run_beginRound L1 (by rw [qu]),?_⟩;have gj:Hid ({ { qj .ready none with state:=.busy } with state:=.ready,pending:=none } = qj .ready none):=qya (by rw [qu]);have fD:Hid ({ { qj .ready none with state:=.busy } with state:=.done,pending:=some (.exit 0) } = qj .done (some (.exit 0))):=qya (by rw [qu]);clear jS qu;obtain⟨W2,jJ⟩ : ∃W2,W1.putObj l (.loop { qj .ready none with state:=.busy })=W2:=⟨_,rfl⟩;rw [jJ];obtain⟨v,xs,F,fL,qz,uv,hF⟩:=hM.box;obtain⟨TA,yT⟩:=hM.bg;obtain⟨TE,uM⟩:=hM.el;have hRW:R<W.heap.size:=fL.lt;have gx:l<W.heap.size:=zaj km;have dH:W.heap.size≠l:=by omega
 have F2:Fr (fun k=>k=l) W W2:=by rw [← jJ];exact (Fr.old O1).putObj l _ (fun _=>rfl)
 have wq:Blk W2 W.heap.size #[.int .i64 (rt t).k,.int .i64 (rt t).n,.string (rt t).s,.int .i64 (rt t).a] 59:=by rw [← jJ];exact nT.putObj dH _
 have L2:W2.heap[l]? = some (.loop { qj .ready none with state:=.busy }):=by rw [← jJ];exact World.putObj_heap_same (zaj L1)
 clear jJ;have qG:Rd W2 b la lc L q:=jc.keep F2 (by omega) (fun g hg=>by have:=qE g hg;omega);have dy:=yT.keep F2 xd;have vI:=uM.keep F2 yh;have xi:=fL.keep F2 qJ;obtain⟨n0,n1,n2,n3,-⟩:=wq.four;have a0:=dy.cell (i:=0) rfl;have e0:=vI.cell (i:=0) rfl;have HB:=qya kw;rw [← kw];clear kw;cases hbx:bg t
 ·have kh:=qya hbx
  gi_wp2_with fail
  refine⟨trivial,fun e=>by simp [Fence.wide] at e,CallsIn.inRound l ((callsIn_wide.2 (kx t W2)).mono ?_)⟩;rintro e w3 ⟨rfl,O3⟩;rw [kh.out];have L3:=O3.heap L2 (fun e=>e);have qN:=qG.old O3;gi_wp2;obtain⟨W',qv⟩ : ∃W',w3.putObj l (.loop (qj .done (some (.exit 0))))=W':=⟨_,rfl⟩;have qy:=run_endRound (P:=Tryz.prog) (some (.exit 0)) L3;have qe:(Instr.endRound l (some (.exit 0))).run Tryz.prog w3=.ok (.bool false) W':=by rw [← qv,← fD.out];exact qy
  have F3:Fr (fun k=>k=b∨k=l) W W':=by rw [← qv];exact ((Fr.trans' F2 O3 (fun _ _ e=>False.elim e)).mono (fun k _ e=>.inr e)).putObj l _ (fun _=>.inr rfl)
  refine⟨_,_,qe,.inr (.inl ⟨rfl,ts,q,hM.loop hl xd yh qJ yB F3 (by omega) (by omega) (by omega) (by omega) hb (by rw [← qv];exact World.putObj_heap_same (zaj L3)),?_,dU,ci,?_⟩)⟩
  ·rw [← qv];exact qN.keep ((Fr.refl (fun k=>k=l) w3).putObj l _ (fun _=>rfl)) (by omega) (fun g hg=>by have:=qE g hg;omega)
  ·rw [qV,Sx.zgk (by rw [qW];exact kh.out)];simp [Sx.Res.map]
 ·have kh:=qya hbx
  gi_wp2_with fail
  refine⟨trivial,fun e=>by simp [Fence.wide] at e,CallsIn.inRound l ((callsIn_wide.2 (kx t W2)).mono ?_)⟩;rintro e w3 ⟨rfl,O3⟩;rw [kh.out];have L3:=O3.heap L2 (fun e=>e);have qN:=qG.old O3;have e3:=(Blk.keep vI O3 (fun e=>e)).cell (i:=0) rfl;have vf:=Blk.keep xi O3 (fun e=>e);have bC : ∃m',m=m'+1:=⟨m-1,by omega⟩;obtain⟨m',rfl⟩:=bC;have qm:Sx.many bg el (m'+1) (toks.drop q)=(el (toks.drop q)).bind fun x r=>(Sx.many bg el m' r).map (x :: ·):=by
   rw [Sx.many,if_pos ⟨by rw [qW];exact hk,by rw [qW];exact kh.out⟩]
  have uE:=qya qm;have zX:=qya qV;clear qm qV
  gi_wp2_with fail
  refine⟨trivial,fun e=>by simp [Fence.wide] at e,CallsIn.inRound l ((callsIn_wide.2 (q9 q w3 (by omega) qN hq)).mono ?_)⟩;rintro e w4 ⟨f4,hp⟩;have F4:Fr (fun k=>k=b∨k=l) W w4:=Fr.trans' (Fr.trans' (F2.mono (S':=fun k=>k=b∨k=l) (fun k _ e=>.inr e)) O3 (fun _ _ e=>False.elim e)) f4 (fun k _ e=>.inl e);cases hres:el (toks.drop q) with
  | bad rest=>
   rw [hres] at hp;have hp:e=panS (zah len rest):=hp;subst hp;have xB:=qya hres;clear hres;gi_wp2;refine⟨rfl,.inr (.inr ⟨_,rfl,rest,?_,rfl,hM.but.trans' F4 (fun k hk e=>by omega),F4.heap hM.K (by omega)⟩)⟩;rw [zX.out,uE.out,xB.out];rfl
  | ok y rest=>
   rw [hres] at hp;obtain⟨yv,q',rfl,qq,qx,qX,gz,zq⟩:=hp;have xB:=qya hres;clear hres;obtain⟨kd,nu,nm,ag,l2,n2,c2,l4,n4,c4,rfl⟩:=zq.parts;have L4:=f4.heap L3 (by omega);have dk:=vf.keep f4 (by omega);have pi : ∀k,v.ownBlock=some k→k≠l:=fun k hk e=>zan qz hk (e▸hM.L) (by intro cs fr;exact fun e=>by cases e);have bP : ∀k,v.ownBlock=some k→k≠D:=fun k hk e=>zan qz hk (e▸hM.K) (by intro cs fr;exact fun e=>by cases e);have ri : ∀k,v.ownBlock=some k→k≠A:=fun k hk e=>own_ne_one qz hk (e▸yT);have lH : ∀k,v.ownBlock=some k→k≠E:=fun k hk e=>own_ne_one qz hk (e▸uM);have uu:=zaa qz F4 (fun k hk e=>by
    have:=(qz.lt k hk).1;have:=pi k hk;omega)
   have lX:W.heap.size≤w3.heap.size:=qyu F2.size O3.size;have lK:=f4.size
   gi_wp2_with fail
   refine zcz (by kernel_rfl) (by intro o ho c;simp at ho;rcases ho with rfl | rfl | rfl | rfl | rfl | rfl | rfl | rfl <;> simp) (by rintro⟨a',w',jq⟩;exact jq) ?_;have fM:=Blk.new w4 #[.int .i64 kd,.int .i64 nu,.string nm,.string ag,.slice l2 n2 c2,.slice l4 n4 c4] 32;have dS:=dk.alloc (.cells #[.int .i64 kd,.int .i64 nu,.string nm,.string ag,.slice l2 n2 c2,.slice l4 n4 c4] 32);have kH:=uu.alloc (.cells #[.int .i64 kd,.int .i64 nu,.string nm,.string ag,.slice l2 n2 c2,.slice l4 n4 c4] 32);have L5:(w4.alloc (.cells #[.int .i64 kd,.int .i64 nu,.string nm,.string ag,.slice l2 n2 c2,.slice l4 n4 c4] 32)).heap[l]? = _:=((Old.refl w4).alloc _).heap L4 (fun e=>e);have O5:Old w4 (w4.alloc (.cells #[.int .i64 kd,.int .i64 nu,.string nm,.string ag,.slice l2 n2 c2,.slice l4 n4 c4] 32)):=(Old.refl w4).alloc _;have z5:(w4.alloc (.cells #[.int .i64 kd,.int .i64 nu,.string nm,.string ag,.slice l2 n2 c2,.slice l4 n4 c4] 32)).heap.size=w4.heap.size+1:=qyd _ _;obtain⟨w5,bi⟩ : ∃w5,w4.alloc (.cells #[.int .i64 kd,.int .i64 nu,.string nm,.string ag,.slice l2 n2 c2,.slice l4 n4 c4] 32)=w5:=⟨_,rfl⟩;rw [bi] at fM dS kH L5 O5 z5 ⊢;clear bi;refine snocE rfl (by intro c a' d u w' jq;cases d <;> exact jq) _ _ _ _ _ _ _ _ _ _ _ _ _ _ _ _ _ _ _ _ _ _ _ _ _ w5 R w4.heap.size w0.heap.size ts.length v xs kd nu nm ag l2 n2 c2 l4 n4 c4 dS fM (fun e => ?_) kH (by have:=hM.but.size;omega) (by have:=jc.few;have:=jc.le;omega) ?_
   ·have:=(qz.lt _ e).2;omega
   rintro a' w6 ⟨hds,g,cap,j7,xC,mt,qZ,xm⟩;have L6:=mt.heap L5 (fun e=>e.elim (fun e=>qJ e.symm) (fun e=>pi _ e rfl));obtain⟨W',qv⟩ : ∃W',w6.putObj l (.loop (qj .ready none))=W':=⟨_,rfl⟩;have qy:=run_endRound (P:=Tryz.prog) none L6;have qe:(Instr.endRound l none).run Tryz.prog w6=.ok (.bool true) W':=(by rw [← qv,← gj.out];exact qy);have F7:Fr (fun k=>k=l∨k=R∨v.ownBlock=some k) w4 W':=by
    rw [← qv];exact ((Fr.trans' (Fr.old O5) mt (fun k hk e=>.inr e))).putObj l _ (fun _=>.inl rfl)
   have F8:Fr (fun k=>k=b∨k=l∨k=R∨v.ownBlock=some k) W W':=Fr.trans' (F4.mono (fun k _ e=>e.elim .inl (fun e=>.inr (.inl e)))) F7 (fun k _ e=>.inr e);have yf:Blk W' R #[.slice (some ⟨g,0,none⟩) (ts.length+1) cap] 29:=(by rw [← qv];exact xC.putObj qJ _);have qQ:g≠l:=fun e=>qZ.elim (fun h=>pi g h e) (fun h=>by omega);have j6:=zaa j7 ((Fr.refl (fun k=>k=l) w6).putObj l (.loop (qj .ready none)) (fun _=>rfl)) (fun k hk e=>by cases hk;exact qQ e);rw [qv] at j6;have zy : ∀k,v.ownBlock=some k→w0.heap.size≤k∧k<W.heap.size:=fun k hk=>qz.lt k hk;have L7:W'.heap[l]? = some (.loop (qj .ready none)):=(by rw [← qv];exact World.putObj_heap_same (zaj L6));refine⟨_,_,qe,.inl ⟨rfl,q',qx,ts++[y],m',⟨⟨TA,yT.keep F8 ?_⟩,⟨TE,uM.keep F8 ?_⟩,⟨_,xs++[.int .i64 kd,.int .i64 nu,.string nm,.string ag,.slice l2 n2 c2,.slice l4 n4 c4],fun k=>F k∨(w3.heap.size≤k∧k<w4.heap.size),yf,?_,ExsAt.snoc ts xs y (.int .i64 kd) (.int .i64 nu) (.string nm) (.string ag) (.slice l2 n2 c2) (.slice l4 n4 c4) ?_ ?_,?_⟩,L7,F8.heap hM.K ?_,hM.but.trans' F8 ?_⟩,?_,qX,?_,?_,?_⟩⟩
   ·rintro (e | e | e | e)
    ·omega
    ·exact xd e
    ·exact rT e
    ·exact ri _ e rfl
   ·rintro (e | e | e | e)
    ·omega
    ·exact yh e
    ·exact eJ e
    ·exact lH _ e rfl
   ·rw [qye,qyh];exact j6
   ·refine ExsAt.more (fun k hk=>.inl hk) _ _ (uv.keep F8 ?_);rintro k hk (e | e | e | e)
    ·have:=(hF k hk).1;omega
    ·exact (hF k hk).2.2.2.1 e
    ·exact (hF k hk).2.2.1 e
    ·exact (hF k hk).2.2.2.2.1 e
   ·refine ExAt.more (fun k hk=>.inr hk) _ _ (zq.keep F7 ?_);rintro k hk (e | e | e)
    ·omega
    ·omega
    ·have:=zy k e;omega
   ·have h7:=F7.size;rintro k (hk | hk)
    ·obtain⟨g1,g2,g3,g4,g5⟩:=hF k hk;refine⟨g1,by omega,g3,g4,fun e => ?_,g5.2⟩;have e':g=k:=qyj (show some g=some k from e);subst e';exact qZ.elim g5.1 (fun h=>by omega)
    ·have hk1:=hk.1;have hk2:=hk.2;have hDW:=zaj hM.K;refine⟨by omega,by omega,by omega,by omega,fun e => ?_,by omega⟩;have e':g=k:=qyj (show some g=some k from e);rcases qZ with h | h
     ·have:=(zy _ h).2;omega
     ·omega
   ·rintro (e | e | e | e)
    ·omega
    ·exact yB e
    ·exact rD e
    ·exact bP _ e rfl
   ·rintro k hk (e | e | e | e)
    ·exact e
    ·omega
    ·omega
    ·have:=zy _ e;omega
   ·refine gz.keep F7 ?_ (fun g' kI => ?_)
    ·rintro (e | e | e)
     ·omega
     ·omega
     ·have:=zy _ e;omega
    ·have:=qE g' kI;rintro (e | e | e)
     ·omega
     ·omega
     ·have:=zy _ e;omega
   ·omega
   ·rw [qye,qyh];omega
   ·rw [zX.out,uE.out,xB.out,qq];show ((Sx.many bg el m' (toks.drop q')).map (y :: ·)).map (ts ++ ·)=_;cases Sx.many bg el m' (toks.drop q') with
    | ok z zr=>simp [Sx.Res.map]
    | bad zr=>rfl
attribute [local go_sem] Oper.semAt_some
def ManyPost(b:Nat)(la:Option Addr)(lc:Nat)(L:List RT)(toks:List Lx.Tok)(len:Int)(q:Nat)(r:Sx.Res (List Sx.Ex))(w0:World)(e:Ending)(W':World):Prop:=
 But b w0 W'∧match r with
  | .ok ts rest=>∃v xs F q',e=.returned v∧rest=toks.drop q'∧q≤q'∧q'≤toks.length∧Rd W' b la lc L q'∧W'.ownsRow w0.heap.size 32 6 v ts.length xs∧ExsAt W' F ts xs∧∀k,F k→w0.heap.size≤k∧k<W'.heap.size
  | .bad rest=>e=panS (zah len rest)
theorem manyX_any(w0:World)(b:Nat)(la:Option Addr)(lc:Nat)(L:List RT)(toks:List Lx.Tok)(len:Int)(hL:RtOf L toks len)(q:Nat)(jc:Rd w0 b la lc L q)(hq:q≤toks.length)
    (bg:Lx.Tok→Bool)(kx : ∀(t:Lx.Tok) (W:World),Calls Tryz.prog 283 #[rtV (rt t)] W fun e W'=>e=.returned (.bool (bg t))∧Old W W')
    (el:List Lx.Tok→Sx.Res Sx.Ex)(q9 : ∀(q':Nat) (W:World),q≤q'→Rd W b la lc L q'→q'<toks.length→Calls Tryz.prog 284 #[.pointer (some ⟨b,0,none⟩)] W (zaf ExAt b la lc L toks len (el (toks.drop q')) q' W))
    (m:Nat)(hm:toks.length-q≤m) :
    CallsIn Fence.wide 3 Tryz.prog 282 #[.pointer (some ⟨b,0,none⟩),.func (.func 283) #[] #[],.func (.func 284) #[.pointer (some ⟨b,0,none⟩)] #[]] w0 (ManyPost b la lc L toks len q (Sx.many bg el m (toks.drop q)) w0):=by
  have vw:=mkf;have hb:=jc.blk.lt;refine callsIn_of_wpAt_marks Tryz.func282 rfl trivial ?_ rfl;simp only [Tryz.ntmps282,qxg,qxh,qxi,Nat.reduceAdd,Nat.reduceSub,qxj,qxk,qxl,qxm,qxn,qxo];refine wpAt_seq_in (fun K hK => ?_);gi_wp2;refine wpAt_scope ?_;refine wpAt_seq_in (fun K hK => ?_);gi_wp2;refine wpAt_seq_in (fun K hK=>wpIn_label ?_);refine hK _ _ ?_;clear hK K;refine wpAt_seq ?_;refine wpAt_seq_in (fun K hK => ?_);gi_wp2;refine wpAt_block ?_;refine zb2 ?_;intro A B hA hB;have jI:zay (Tryz.f282.body.getD .skip)=some (A,B):=by rw [hA,hB];rfl
  clear hA hB vw;obtain⟨W0,qF⟩ : ∃W0,(((w0.alloc (.cells #[.func (.func 283) #[] #[]] 112)).alloc (.cells #[.func (.func 284) #[.pointer (some ⟨b,0,none⟩)] #[]] 91)).alloc (.cells #[.slice none 0 0] 29))=W0:=⟨_,rfl⟩;rw [qF];have F0:Old w0 W0:=by rw [← qF];exact (((Old.refl w0).alloc _).alloc _).alloc _
  have z0:W0.heap.size=w0.heap.size+3:=by rw [← qF];simp
  have bA:Blk W0 w0.heap.size #[.func (.func 283) #[] #[]] 112:=by rw [← qF];exact ((Blk.new w0 _ _).alloc _).alloc _
  have bE:Blk W0 (w0.heap.size+1) #[.func (.func 284) #[.pointer (some ⟨b,0,none⟩)] #[]] 91:=by rw [← qF];exact (Blk.new' (by simp) _ _).alloc _
  have bR:Blk W0 (w0.heap.size+2) #[.slice none 0 0] 29:=by rw [← qF];exact Blk.new' (by simp) _ _
  clear qF;refine wpAt_rangeFunc ?_;obtain⟨tm,jS⟩ : ∃tm,tm=(#[.pointer (some ⟨b,0,none⟩),.func (.func 283) #[] #[],.func (.func 284) #[.pointer (some ⟨b,0,none⟩)] #[],undef,.pointer (some ⟨w0.heap.size,0,none⟩),.pointer (some ⟨w0.heap.size+1,0,none⟩),.slice none 0 0,.pointer (some ⟨w0.heap.size+1+1,0,none⟩),undef,undef,.pointer (some ⟨b,0,none⟩),
    .func (.func 72) #[.pointer (some ⟨b,0,none⟩)] #[],undef,undef,undef,undef,undef,undef,undef,undef,undef,undef,undef,undef,undef,undef]:Array Value):=⟨_,rfl⟩
  obtain⟨qj,qu⟩ : ∃qj,qj=fun st pe=>({ state:=st,pending:=pe,fn:=282,tmps:=tm,params:=#[12],assign:=A,body:=B,defers:=W0.heap.size } : Loop):=⟨_,rfl⟩;obtain⟨W1,qd⟩ : ∃W1,(W0.alloc (.deferred (some []))).alloc (.loop (qj .ready none))=W1:=⟨_,rfl⟩;have F1:Old w0 W1:=by rw [← qd];exact (F0.alloc _).alloc _
  have ka:Old W0 W1:=by rw [← qd];exact ((Old.refl W0).alloc _).alloc _
  have z1:W1.heap.size=W0.heap.size+2:=by rw [← qd];simp
  have qE : ∀g,la=some g→g.block<w0.heap.size:=jc.glt (by rw [hL];simp;omega);have hlen:L.length=toks.length+1:=by rw [hL];simp
  have xF:ManyAt w0 b w0.heap.size (w0.heap.size+1) (w0.heap.size+1+1) (W0.heap.size+1) W0.heap.size (.func (.func 283) #[] #[]) (.func (.func 284) #[.pointer (some ⟨b,0,none⟩)] #[]) (qj .ready none) [] W1:=
    ⟨⟨_,bA.keep ka (fun e=>e)⟩,⟨_,bE.keep ka (fun e=>e)⟩,⟨_,[],fun _=>False,bR.keep ka (fun e=>e),⟨rfl,.inl ⟨rfl,rfl⟩⟩,by rw [ExsAt],fun k hk=>hk.elim⟩,
     by rw [← qd];have:=World.alloc_heap_new (W0.alloc (.deferred (some []))) (.loop (qj .ready none));rwa [qyd] at this,
     by rw [← qd];exact (Below.heap_alloc _ _ _ (by simp)).trans (World.alloc_heap_new W0 _),F1.but b⟩
  refine⟨W0.heap.size+1,[{ target:=.collected W0.heap.size,args:=#[] }],W1,{ target:=.fn (.func 72) #[],args:=#[.pointer (some ⟨b,0,none⟩),.func (.yield (W0.heap.size+1)) #[] #[]] },W1,72,
    #[.pointer (some ⟨b,0,none⟩),.func (.yield (W0.heap.size+1)) #[] #[]],W1,?_,?_,fun _ _=>trivial,?_,fun e=>by simp [Fence.wide] at e,?_⟩
  · rw [← qd,qu,jS];exact run_enterLoop_outer _ _ _ _ _
  · simp [resolve,go_sem]
  · simp [invoke,go_sem]
  · refine (zdx 2 (by decide) (W0.heap.size+1) W1 b la lc L q
      (ManyJ w0 b w0.heap.size (w0.heap.size+1) (w0.heap.size+1+1) (W0.heap.size+1) W0.heap.size (.func (.func 283) #[] #[]) (.func (.func 284) #[.pointer (some ⟨b,0,none⟩)] #[]) qj la lc L toks q bg el (Sx.many bg el m (toks.drop q)))
      (ManyF w0 b w0.heap.size (w0.heap.size+1) (w0.heap.size+1+1) (W0.heap.size+1) W0.heap.size (.func (.func 283) #[] #[]) (.func (.func 284) #[.pointer (some ⟨b,0,none⟩)] #[]) qj la lc L toks q (Sx.many bg el m (toks.drop q)))
      (ManyP w0 b W0.heap.size len (Sx.many bg el m (toks.drop q)))
      (fun q' W h=>by obtain⟨ts,m',h1,h2,h3,_⟩:=h;exact⟨h2,by omega⟩)
      (fun q' W W' h hO=>by
        obtain⟨ts,m',h1,h2,h3⟩:=h;exact⟨ts,m',h1.old hb (by omega) (by omega) (by omega) (by omega) (by omega) (hO.but b),h2.old hO,h3⟩)
      (fun q' x W hx hk h=>manyX_yield 1 w0 b w0.heap.size (w0.heap.size+1) (w0.heap.size+1+1) (W0.heap.size+1) W0.heap.size hb (by omega) (by omega) (by omega) (by omega) (by omega) (by omega) (by omega) (by omega) (by omega) (by omega) (by omega) (by omega) A B jI tm _ _ _ _ _ _ _ _ _ _ _ _ _ _ _ _ _ _ _ _ _ _ _ jS qj qu la lc L toks len hL qE bg kx q el q9 _ q' x W hx hk h)
      ⟨[],m,xF,jc.old F1,hq,hm,by simp,by cases Sx.many bg el m (toks.drop q) <;> simp [Sx.Res.map]⟩).mono ?_
    have hst:(qj .ready none).state=.ready∧(qj .ready none).pending=none∧(qj .done (some (.exit 0))).state=.done∧(qj .done (some (.exit 0))).pending=some (.exit 0):=(by rw [qu];exact⟨rfl,rfl,rfl,rfl⟩);clear qu jI xF qd;rintro e W2 (⟨rfl,⟨q',x,⟨ts,m',zt,qG,xw,tE,fC,qV⟩,hx,dZ⟩ | ⟨ts,q',zt,qG,xw,fC,qV⟩⟩ | ⟨c,rfl,rest,qV,hc,zb,hK⟩)
    · have zd:Sx.many bg el m (toks.drop q)=.ok ts (toks.drop q'):=by
        rw [qV,zh4 hL hx dZ];simp [Sx.Res.map]
      obtain⟨L',qy⟩ : ∃L',(Instr.endLoop (W0.heap.size+1)).run Tryz.prog W2=.ok none (W2.putObj (W0.heap.size+1) (.loop L')):=⟨_,by have:=run_endLoop (P:=Tryz.prog) zt.L (by rw [hst.1];simp);rw [hst.2.1] at this;exact this⟩;obtain⟨W3,qM⟩ : ∃W3,W2.putObj (W0.heap.size+1) (.loop L')=W3:=⟨_,rfl⟩;rw [qM] at qy;have F3:Fr (fun k=>k=W0.heap.size+1) W2 W3:=(by rw [← qM];exact (Fr.refl _ W2).putObj _ _ (fun _=>rfl));have jx:=zt.loop (by omega) (by omega) (by omega) (by omega) (by omega) (F3.mono (fun k _ e=>.inr e)) (by omega) (by omega) (by omega) (by omega) hb (by rw [← qM];exact World.putObj_heap_same (zaj zt.L));have qN:Rd W3 b la lc L q':=qG.keep F3 (by omega) (fun g hg=>by have:=qE g hg;omega);clear qM;refine⟨none,W3,qy,wpAt_of_wpIn ?_⟩;obtain⟨v,xs,F,vf,qf,xL,zz⟩:=jx.box;have x0:=vf.c 0 v rfl;have zX:=qya zd;have Z0:=qya z0;clear qy zd qV z0;gi_wp2;have z0:=Z0.out;refine⟨by simp,.inl ⟨_,_,rfl,run_takeDeferred jx.K,?_⟩⟩;have F5:Fr (fun k=>k=W0.heap.size) W3 (W3.putObj W0.heap.size (.deferred none)):=(Fr.refl _ W3).putObj _ _ (fun _=>rfl);refine⟨v,by simp [results,Tryz.results282,go_sem],?_⟩;unfold ManyPost;rw [zX.out];refine⟨jx.but.trans' F5 (fun k hk e=>by omega),v,xs,F,q',rfl,rfl,by omega,xw,qN.keep F5 (by omega) (fun g hg=>by have:=qE g hg;omega),zaa qf F5 (fun k hk e=>zan qf hk (e▸jx.K) (by intro cs fr;exact fun e=>by cases e)),xL.keep F5 (fun k hk e=>(zz k hk).2.2.2.2.2 e),fun k hk=>⟨(zz k hk).1,qyc (zz k hk).2.1 F5.size⟩⟩
    · obtain⟨L',qy⟩ : ∃L',(Instr.endLoop (W0.heap.size+1)).run Tryz.prog W2=.ok (some (.exit 0)) (W2.putObj (W0.heap.size+1) (.loop L')):=⟨_,by have:=run_endLoop (P:=Tryz.prog) zt.L (by rw [hst.2.2.1];simp);rw [hst.2.2.2] at this;exact this⟩;obtain⟨W3,qM⟩ : ∃W3,W2.putObj (W0.heap.size+1) (.loop L')=W3:=⟨_,rfl⟩;rw [qM] at qy;have F3:Fr (fun k=>k=W0.heap.size+1) W2 W3:=(by rw [← qM];exact (Fr.refl _ W2).putObj _ _ (fun _=>rfl));have jx:=zt.loop (by omega) (by omega) (by omega) (by omega) (by omega) (F3.mono (fun k _ e=>.inr e)) (by omega) (by omega) (by omega) (by omega) hb (by rw [← qM];exact World.putObj_heap_same (zaj zt.L));have qN:Rd W3 b la lc L q':=qG.keep F3 (by omega) (fun g hg=>by have:=qE g hg;omega);clear qM;refine⟨some (.exit 0),W3,qy,wpIn_exit ?_⟩;simp only [Exit.inBlock,if_true];refine wpAt_of_wpIn ?_;obtain⟨v,xs,F,vf,qf,xL,zz⟩:=jx.box;have x0:=vf.c 0 v rfl;have zX:=qya qV;have Z0:=qya z0;clear qy qV z0;gi_wp2;have z0:=Z0.out;refine⟨by simp,.inl ⟨_,_,rfl,run_takeDeferred jx.K,?_⟩⟩;have F5:Fr (fun k=>k=W0.heap.size) W3 (W3.putObj W0.heap.size (.deferred none)):=(Fr.refl _ W3).putObj _ _ (fun _=>rfl);refine⟨v,by simp [results,Tryz.results282,go_sem],?_⟩;unfold ManyPost;rw [zX.out];refine⟨jx.but.trans' F5 (fun k hk e=>by omega),v,xs,F,q',rfl,rfl,by omega,xw,qN.keep F5 (by omega) (fun g hg=>by have:=qE g hg;omega),zaa qf F5 (fun k hk e=>zan qf hk (e▸jx.K) (by intro cs fr;exact fun e=>by cases e)),xL.keep F5 (fun k hk e=>(zz k hk).2.2.2.2.2 e),fun k hk=>⟨(zz k hk).1,qyc (zz k hk).2.1 F5.size⟩⟩
    · refine⟨by simp,.inl ⟨_,_,rfl,run_takeDeferred hK,?_⟩⟩;have F5:Fr (fun k=>k=W0.heap.size) W2 (W2.putObj W0.heap.size (.deferred none)):=(Fr.refl _ W2).putObj _ _ (fun _=>rfl);show ManyPost b la lc L toks len q (Sx.many bg el m (toks.drop q)) w0 (.panicked c) _;unfold ManyPost;rw [qV];exact⟨zb.trans' F5 (fun k hk e=>by omega),hc⟩
theorem tupleX_is(l:Option Addr)(n c:Nat)(w:World):Calls Tryz.prog 293 #[.slice l n c] w fun e w'=>e=.returned (.agg #[.int .i64 3,.int .i64 0,.string ⟨#[44]⟩,.string ⟨#[]⟩,.slice l n c,.slice none 0 0])∧Old w w':=by
 go_enter Tryz.func293,Tryz.ntmps293
 go_wp2;refine bodyPost_ret (v:=.agg #[.int .i64 3,.int .i64 0,.string ⟨#[44]⟩,.string ⟨#[]⟩,.slice l n c,.slice none 0 0]) (by simp [results,Tryz.results293,go_sem]) rfl ⟨rfl,?_⟩;exact (Old.refl w).alloc _
structure GrpAt(w0:World)(b X:Nat)(xs:List Value)(ts:List Sx.Ex)(v:Value)(W:World):Prop where
 res:Blk W w0.heap.size #[.int .i64 0,.int .i64 0,.string ⟨#[]⟩,.string ⟨#[]⟩,.slice none 0 0,.slice none 0 0] 32
 x : ∃y0 y1 y2 y3 y4 y5,Blk W X #[y0,y1,y2,y3,y4,y5] 32
 own:W.ownsRow (X+1) 32 6 v ts.length xs
 tys : ∃F,ExsAt W F ts xs∧∀k,F k→w0.heap.size<k∧k<W.heap.size∧k≠X∧v.ownBlock≠some k
 but:But b w0 W
theorem GrpAt.old{w0:World}{b X:Nat}{xs:List Value}{ts:List Sx.Ex}{v:Value}{W W':World}(h:GrpAt w0 b X xs ts v W)(hb:b<w0.heap.size)(hX:w0.heap.size<X)(hf:But b W W'):GrpAt w0 b X xs ts v W':=by
 obtain⟨F,h1,h2⟩:=h.tys;obtain⟨y0,y1,y2,y3,y4,y5,hx⟩:=h.x;refine⟨h.res.keep hf (by omega),⟨y0,y1,y2,y3,y4,y5,hx.keep hf (by omega)⟩,zaa h.own hf (fun k hk e => ?_),⟨F,h1.keep hf (fun k hk e => ?_),fun k hk => ?_⟩,h.but.trans hf⟩
 ·have:=(h.own.lt k hk).1;omega
 ·have:=(h2 k hk).1;omega
 ·obtain⟨g1,g2,g3⟩:=h2 k hk;exact⟨g1,qyc g2 hf.size,g3⟩
theorem GrpAt.snoc{w0:World}{b X:Nat}{xs:List Value}{ts:List Sx.Ex}{l:Option Addr}{c:Nat}{W w4 w5 w6:World}(h:GrpAt w0 b X xs ts (.slice l ts.length c) W)(hb:b<w0.heap.size)(hX:w0.heap.size<X)
  (f4:But b W w4)(f5:But b w4 w5){z:Sx.Ex}{kd nu:Int}{nm ag:ByteArray}{l2:Option Addr}{n2 c2:Nat}{l4:Option Addr}{n4 c4:Nat}(hz:ExAt w5 (fun k=>w4.heap.size≤k∧k<w5.heap.size) z (.agg #[.int .i64 kd,.int .i64 nu,.string nm,.string ag,.slice l2 n2 c2,.slice l4 n4 c4]))
  (F6:Fr (fun k=>k=X∨(Value.slice l ts.length c).ownBlock=some k) w5 w6)(dN : ∃y0 y1 y2 y3 y4 y5,Blk w6 X #[y0,y1,y2,y3,y4,y5] 32){g cap:Nat}(ho:w6.ownsRow (X+1) 32 6 (.slice (some ⟨g,0,none⟩) (ts.length+1) cap) (ts.length+1) (xs++[.int .i64 kd,.int .i64 nu,.string nm,.string ag,.slice l2 n2 c2,.slice l4 n4 c4]))
  (qZ:(Value.slice l ts.length c).ownBlock=some g∨w5.heap.size≤g):GrpAt w0 b X (xs++[.int .i64 kd,.int .i64 nu,.string nm,.string ag,.slice l2 n2 c2,.slice l4 n4 c4]) (ts++[z]) (.slice (some ⟨g,0,none⟩) (ts++[z]).length cap) w6:=by
 obtain⟨F,h1,h2⟩:=h.tys;obtain⟨y0,y1,y2,y3,y4,y5,hx⟩:=h.x;have hXW:=hx.lt;have jQ : ∀k,(Value.slice l ts.length c).ownBlock=some k→X+1≤k∧k<W.heap.size:=fun k hk=>h.own.lt k hk;have dd:Fr (fun k=>k=b∨k=X∨(Value.slice l ts.length c).ownBlock=some k) W w6:=Fr.trans' ((Fr.trans f4 f5).mono (S':=fun k=>k=b∨k=X∨(Value.slice l ts.length c).ownBlock=some k) (fun k _ e=>.inl e)) F6 (fun k _ e=>.inr e);have z4:=f4.size;have z5:=f5.size;have z6:=F6.size;refine⟨h.res.keep dd ?_,dN,?_,⟨fun k=>F k∨(w4.heap.size≤k∧k<w5.heap.size),ExsAt.snoc ts xs z (.int .i64 kd) (.int .i64 nu) (.string nm) (.string ag) (.slice l2 n2 c2) (.slice l4 n4 c4) ?_ ?_,?_⟩,h.but.trans' dd ?_⟩
 ·rintro (e | e | e)
  ·omega
  ·omega
  ·have:=jQ _ e;omega
 ·rw [qye,qyh];exact ho
 ·refine ExsAt.more (fun k hk=>.inl hk) _ _ (h1.keep dd ?_);rintro k hk (e | e | e)
  ·have:=(h2 k hk).1;omega
  ·exact (h2 k hk).2.2.1 e
  ·exact (h2 k hk).2.2.2 e
 ·refine ExAt.more (fun k hk=>.inr hk) _ _ (hz.keep F6 ?_);rintro k hk (e | e)
  ·omega
  ·have:=jQ k e;omega
 ·rintro k (hk | hk)
  ·obtain⟨g1,g2,g3,g4⟩:=h2 k hk;refine⟨g1,by omega,g3,fun e => ?_⟩;have e':g=k:=qyj (show some g=some k from e);subst e';exact qZ.elim g4 (fun h=>by omega)
  ·refine⟨by omega,by omega,by omega,fun e => ?_⟩;have e':g=k:=qyj (show some g=some k from e);rcases qZ with h | h
   ·have:=(jQ _ h).2;omega
   ·omega
 ·rintro k hk (e | e | e)
  ·exact e
  ·omega
  ·have:=jQ k e;omega
theorem groupX_any(w0:World)(b:Nat)(la:Option Addr)(lc:Nat)(L:List RT)(toks:List Lx.Tok)(len:Int)(hL:RtOf L toks len)(q:Nat)(jc:Rd w0 b la lc L q)(hq:q≤toks.length)
  (el:List Lx.Tok→Sx.Res Sx.Ex)(q9 : ∀(q':Nat) (W:World),q≤q'→Rd W b la lc L q'→q'≤toks.length→Calls Tryz.prog 43 #[.pointer (some ⟨b,0,none⟩)] W (zaf ExAt b la lc L toks len (el (toks.drop q')) q' W)) :
  Calls Tryz.prog 292 #[.pointer (some ⟨b,0,none⟩),.func (.func 43) #[.pointer (some ⟨b,0,none⟩)] #[],.func (.func 293) #[] #[]] w0 (zaf ExAt b la lc L toks len (Sx.zcd el ((fun xs=>Sx.Ex.mk 3 0 [44] [] xs [])) (toks.drop q)) q w0):=by
 have hb:=jc.blk.lt;have qQ:=jc.glt (by rw [hL];simp;omega);rw [Sx.zl6];obtain⟨M0,qV⟩ : ∃M0,(el (toks.drop q)).bind (fun x r=>Sx.rest el ((fun xs=>Sx.Ex.mk 3 0 [44] [] xs [])) x [] 3 r)=M0:=⟨_,rfl⟩;rw [qV];have O0:Old w0 (w0.alloc (.cells #[.int .i64 0,.int .i64 0,.string ⟨#[]⟩,.string ⟨#[]⟩,.slice none 0 0,.slice none 0 0] 32)):=(Old.refl w0).alloc _;have qD:=Blk.new w0 #[.int .i64 0,.int .i64 0,.string ⟨#[]⟩,.string ⟨#[]⟩,.slice none 0 0,.slice none 0 0] 32;have dz:=q9 q _ (qyb q) (jc.old O0) hq;obtain⟨qp,qr⟩ : ∃qp,w0.alloc (.cells #[.int .i64 0,.int .i64 0,.string ⟨#[]⟩,.string ⟨#[]⟩,.slice none 0 0,.slice none 0 0] 32)=qp:=⟨_,rfl⟩;have qw:qp.heap.size=w0.heap.size+1:=by rw [← qr];simp
 rw [qr] at O0 qD dz;have vh:=qya qr;have qi:=qya qw;clear qr qw
 go_enter Tryz.func292,Tryz.ntmps292
 go_wp2_with fail
 rw [vh.out]
 (with_reducible refine dz.mono ?_)
 rintro e w2 ⟨f2,hp⟩;have jE:=f2.size;cases hres:el (toks.drop q) with
 | bad rest=>
  rw [hres] at hp;have hp:e=panS (zah len rest):=hp;subst hp;rw [hres] at qV;have HM:=qya qV;clear hres qV;go_wp2;refine⟨rfl,Fr.trans (Old.but O0 b) f2,?_⟩;rw [← HM.out];rfl
 | ok y rest=>
  rw [hres] at hp;obtain⟨yv,q',rfl,qq,qx,qX,h2,zq⟩:=hp;obtain⟨kd,nu,nm,ag,l2,n2,c2,l4,n4,c4,rfl⟩:=zq.parts;have jL:=qD.keep f2 (by have:=qi.out;omega);have HM:Hid (M0=Sx.rest el ((fun xs=>Sx.Ex.mk 3 0 [44] [] xs [])) y [] 3 (toks.drop q')):=qya (by rw [← qV,hres,qq];rfl);clear hres qq qV;have vw:=mkf
  go_upto_block 0 with fail
  go_cut [8] from 13 to 25 (fun s8 wc=>∃(ts:List Sx.Ex) (xs:List Value) (l:Option Addr) (c p:Nat),s8=.slice l ts.length c∧GrpAt w0 b w2.heap.size xs ts (.slice l ts.length c) wc∧Rd wc b la lc L p∧q<p∧p≤toks.length∧ts.head? = some y∧(M0=(Sx.take [41] (toks.drop p)).map (fun _=>Sx.fin ((fun xs=>Sx.Ex.mk 3 0 [44] [] xs [])) y ts.tail)))
  case first=>
   go_wp2_with fail
   go_loopg [8] 4 (fun g s8 wr=>∃(ts:List Sx.Ex) (xs:List Value) (l:Option Addr) (c p:Nat),g+ts.length=5∧ts.length≤4∧ts.head? = some y∧s8=.slice l ts.length c∧GrpAt w0 b w2.heap.size xs ts (.slice l ts.length c) wr∧Rd wr b la lc L p∧q<p∧p≤toks.length∧M0=Sx.rest el ((fun xs=>Sx.Ex.mk 3 0 [44] [] xs [])) y ts.tail (4-ts.length) (toks.drop p))
   case atStart=>
    have qw:=qi.out;have O4:Old w2 ((w2.alloc (.cells #[.int .i64 kd,.int .i64 nu,.string nm,.string ag,.slice l2 n2 c2,.slice l4 n4 c4] 32)).alloc (.cells #[.int .i64 kd,.int .i64 nu,.string nm,.string ag,.slice l2 n2 c2,.slice l4 n4 c4] 32)):=((Old.refl w2).alloc _).alloc _;have kX:=(Blk.new w2 #[.int .i64 kd,.int .i64 nu,.string nm,.string ag,.slice l2 n2 c2,.slice l4 n4 c4] 32).alloc (.cells #[.int .i64 kd,.int .i64 nu,.string nm,.string ag,.slice l2 n2 c2,.slice l4 n4 c4] 32);have kL:Blk ((w2.alloc (.cells #[.int .i64 kd,.int .i64 nu,.string nm,.string ag,.slice l2 n2 c2,.slice l4 n4 c4] 32)).alloc (.cells #[.int .i64 kd,.int .i64 nu,.string nm,.string ag,.slice l2 n2 c2,.slice l4 n4 c4] 32)) (w2.heap.size+1) #[.int .i64 kd,.int .i64 nu,.string nm,.string ag,.slice l2 n2 c2,.slice l4 n4 c4] 32:=Blk.new' (by simp) _ _;have z4:=kL.lt;refine⟨[y],[.int .i64 kd,.int .i64 nu,.string nm,.string ag,.slice l2 n2 c2,.slice l4 n4 c4],_,_,q',rfl,(show 1≤4 by decide),rfl,rfl,⟨jL.keep O4 (fun e=>e),⟨_,_,_,_,_,_,kX⟩,⟨rfl,.inr ⟨w2.heap.size+1,1,_,rfl,qyb _,kL,qyb _,by unfold maxLen;omega,rfl,rfl⟩⟩,⟨fun k=>qp.heap.size≤k∧k<w2.heap.size,?_,fun k hk => ?_⟩,Fr.trans (Old.but O0 b) (Fr.trans f2 (Old.but O4 b))⟩,h2.old O4,qx,qX,HM.out⟩
    ·rw [ExsAt];refine⟨_,_,_,_,_,_,_,rfl,zq.keep O4 (fun _ _ e=>e),?_⟩;rw [ExsAt]
    ·refine⟨by omega,by omega,by omega,fun e => ?_⟩;have e':w2.heap.size+1=k:=qyj (show some (w2.heap.size+1)=some k from e);omega
   case round=>
    obtain⟨ts,xs,l,c,p,hg,gT,yu,rfl,hG,jB,gD,vW,xj⟩:=hrel;have vD:=qya xj;clear xj;cases hlen:decide ((ts.length:Int)<4)
    ·go_wp2_with fail
     go_meet
     case rel=>
      have h4:ts.length=4:=(by have:=hlen;simp only [qyn] at this;omega);refine⟨ts,xs,l,c,p,rfl,hG,jB,gD,vW,yu,?_⟩;rw [vD.out];exact Sx.rest_stop (.inl (by omega))
    ·obtain⟨x,hx⟩ : ∃x,L[p]? = some x:=⟨_,List.getElem?_eq_getElem (by rw [hL];simp;omega)⟩;obtain⟨jb,hd2,-⟩:=zc2 hL hx vW;have jp:(⟨#[44]⟩:ByteArray).toList=[44]:=qyw [44];have HL:=qya jp;have HX:=qya hx;have H2:=qya hd2;clear jp hx jb hd2;cases hc:(x.s.toList == [44])
     ·go_wp2_with fail
      (with_reducible refine (ze6 wr b la lc L p jB x HX.out ⟨#[44]⟩ (by rw [HL.out];exact hc)).mono ?_)
      rintro e w4 ⟨rfl,o4⟩
      go_wp2_with fail
      go_meet
      case rel=>
       refine⟨ts,xs,l,c,p,rfl,hG.old hb (by have:=qi.out;omega) (o4.but b),jB.old o4,gD,vW,yu,?_⟩;rw [vD.out];exact Sx.rest_stop (.inr (by rw [H2.out];simpa using hc))
     ·go_wp2_with fail
      (with_reducible refine (zd0 wr b la lc L p jB x HX.out ⟨#[44]⟩ (by rw [HL.out];exact hc)).mono ?_)
      rintro e w4 ⟨rfl,h4,f4⟩;have vU:=zbb hL HX.out vW (by decide) hc;have zj:=hG.old hb (by have:=qi.out;omega) f4;have hn4 : ∃n,4-ts.length=n+1∧4-(ts.length+1)=n:=⟨3-ts.length,by have:=hlen;simp only [qyo] at this;omega,by omega⟩;obtain⟨n,hn,xg⟩:=hn4;have HN:=qya hn;have cz:=qya xg;clear hn xg
      go_wp2_with fail
      (with_reducible refine (q9 (p+1) w4 (by omega) h4 (Nat.succ_le_of_lt vU)).mono ?_)
      rintro e w5 ⟨f5,hp⟩;cases hres:el (toks.drop (p+1)) with
      | bad jk=>
       rw [hres] at hp;have hp:e=panS (zah len jk):=hp;subst hp;have HR:=qya hres;clear hres;go_wp2;refine⟨rfl,zj.but.trans f5,?_⟩;rw [vD.out,HN.out,Sx.zlq (by rw [H2.out];simpa using hc) (by rw [qys];exact HR.out)]
      | ok z jk=>
       rw [hres] at hp;obtain⟨zv,q2,rfl,qU,jh,qo,h5,zg⟩:=hp;obtain⟨qI,j3,qh,j9,l3,n3,c3,l5,n5,c5,rfl⟩:=zg.parts;have HR:=qya hres;have pP:=qya qU;clear hres qU;have zo:=zj.old hb (by have:=qi.out;omega) f5;obtain⟨y0,y1,y2,y3,y4,y5,xP⟩:=zo.x;obtain⟨cX0,cX1,cX2,cX3,cX4,cX5⟩:=xP.c6;obtain⟨gX0,gX1,gX2,gX3,gX4,gX5⟩:=xP.f6;have dT:=xP.lt;have vH:=zo.own;obtain⟨i0,hi,qw,j5,jE⟩:=info_parts zyb;have FX:Fr (fun k=>k=w2.heap.size) w5 ((((((w5.setCell ⟨w2.heap.size,0,none⟩ (.int .i64 qI)).setCell ⟨w2.heap.size,1,none⟩ (.int .i64 j3)).setCell ⟨w2.heap.size,2,none⟩ (.string qh)).setCell ⟨w2.heap.size,3,none⟩ (.string j9)).setCell ⟨w2.heap.size,4,none⟩ (.slice l3 n3 c3)).setCell ⟨w2.heap.size,5,none⟩ (.slice l5 n5 c5)):=((((((Fr.refl (fun k=>k=w2.heap.size) w5).setCell ⟨w2.heap.size,0,none⟩ (fun _=>rfl) (.int .i64 qI)).setCell ⟨w2.heap.size,1,none⟩ (fun _=>rfl) (.int .i64 j3)).setCell ⟨w2.heap.size,2,none⟩ (fun _=>rfl) (.string qh)).setCell ⟨w2.heap.size,3,none⟩ (fun _=>rfl) (.string j9)).setCell ⟨w2.heap.size,4,none⟩ (fun _=>rfl) (.slice l3 n3 c3)).setCell ⟨w2.heap.size,5,none⟩ (fun _=>rfl) (.slice l5 n5 c5);have kX:=(((((xP.set 0 (.int .i64 qI)).set 1 (.int .i64 j3)).set 2 (.string qh)).set 3 (.string j9)).set 4 (.slice l3 n3 c3)).set 5 (.slice l5 n5 c5);have we:=zaa zo.own FX (fun k hk e=>by have:=(zo.own.lt k hk).1;omega);have pI:((((((w5.setCell ⟨w2.heap.size,0,none⟩ (.int .i64 qI)).setCell ⟨w2.heap.size,1,none⟩ (.int .i64 j3)).setCell ⟨w2.heap.size,2,none⟩ (.string qh)).setCell ⟨w2.heap.size,3,none⟩ (.string j9)).setCell ⟨w2.heap.size,4,none⟩ (.slice l3 n3 c3)).setCell ⟨w2.heap.size,5,none⟩ (.slice l5 n5 c5)).heap.size=w5.heap.size:=(by simp);have qR : ∀j u,[Value.int .i64 qI,Value.int .i64 j3,Value.string qh,Value.string j9,Value.slice l3 n3 c3,Value.slice l5 n5 c5][j]? = some u→(((((((w5.setCell ⟨w2.heap.size,0,none⟩ (.int .i64 qI)).setCell ⟨w2.heap.size,1,none⟩ (.int .i64 j3)).setCell ⟨w2.heap.size,2,none⟩ (.string qh)).setCell ⟨w2.heap.size,3,none⟩ (.string j9)).setCell ⟨w2.heap.size,4,none⟩ (.slice l3 n3 c3)).setCell ⟨w2.heap.size,5,none⟩ (.slice l5 n5 c5)).alloc (.cells #[.int .i64 qI,.int .i64 j3,.string qh,.string j9,.slice l3 n3 c3,.slice l5 n5 c5] 32)).cell? ((⟨w5.heap.size,0,none⟩:Addr).add j)=some u:=by
        have:=World.news_of_block (Blk.new ((((((w5.setCell ⟨w2.heap.size,0,none⟩ (.int .i64 qI)).setCell ⟨w2.heap.size,1,none⟩ (.int .i64 j3)).setCell ⟨w2.heap.size,2,none⟩ (.string qh)).setCell ⟨w2.heap.size,3,none⟩ (.string j9)).setCell ⟨w2.heap.size,4,none⟩ (.slice l3 n3 c3)).setCell ⟨w2.heap.size,5,none⟩ (.slice l5 n5 c5)) #[.int .i64 qI,.int .i64 j3,.string qh,.string j9,.slice l3 n3 c3,.slice l5 n5 c5] 32)
        rwa [pI] at this
       have yD:ts.length<4:=(by have:=hlen;simp only [qyo] at this;omega);have ru:(((((((w5.setCell ⟨w2.heap.size,0,none⟩ (.int .i64 qI)).setCell ⟨w2.heap.size,1,none⟩ (.int .i64 j3)).setCell ⟨w2.heap.size,2,none⟩ (.string qh)).setCell ⟨w2.heap.size,3,none⟩ (.string j9)).setCell ⟨w2.heap.size,4,none⟩ (.slice l3 n3 c3)).setCell ⟨w2.heap.size,5,none⟩ (.slice l5 n5 c5)).alloc (.cells #[.int .i64 qI,.int .i64 j3,.string qh,.string j9,.slice l3 n3 c3,.slice l5 n5 c5] 32)).heap.size=w5.heap.size+1:=(by rw [qyd,pI]);have FA:=FX.alloc (.cells #[.int .i64 qI,.int .i64 j3,.string qh,.string j9,.slice l3 n3 c3,.slice l5 n5 c5] 32);have n8:=kX.alloc (.cells #[.int .i64 qI,.int .i64 j3,.string qh,.string j9,.slice l3 n3 c3,.slice l5 n5 c5] 32);have wi:=we.alloc (.cells #[.int .i64 qI,.int .i64 j3,.string qh,.string j9,.slice l3 n3 c3,.slice l5 n5 c5] 32)
       go_wp2_with (first
        | (at_builtin;refine wpList_append_lies _ rfl _ _ 29 rfl (w2.heap.size+1) 32 i0 (.agg #[.int .i64 0,.int .i64 0,.string ⟨#[]⟩,.string ⟨#[]⟩,.slice none 0 0,.slice none 0 0]) 6 96 Tryz.underlying29 hi qw j5 jE rfl (by decide) _ ts.length xs rfl wi ⟨w5.heap.size,0,none⟩ 1 1 [.int .i64 qI,.int .i64 j3,.string qh,.string j9,.slice l3 n3 c3,.slice l5 n5 c5] rfl rfl qR (by intro u hu;simp at hu;rcases hu with rfl | rfl | rfl | rfl | rfl | rfl <;> rfl) (by decide) (by unfold maxLen;omega) (by omega) (by omega) (w5.heap.size+1) ru ?_;intro g cap w6 j7 fN qZ uN)
        | fail)
       have qZ:(Value.slice l ts.length c).ownBlock=some g∨g=w5.heap.size+1:=qZ;have F6:Fr (fun k=>k=w2.heap.size∨(Value.slice l ts.length c).ownBlock=some k) w5 w6:=(FA.mono (fun k _ e=>.inl e)).grown fN (fun k e _=>.inr e);have n9:Blk w6 w2.heap.size #[.int .i64 qI,.int .i64 j3,.string qh,.string j9,.slice l3 n3 c3,.slice l5 n5 c5] 32:=Blk.keep n8 (S:=fun k=>(Value.slice l ts.length c).ownBlock=some k) ((Fr.refl _ _).grown fN (fun k e _=>e)) (fun e=>by have:=(vH.lt _ e).1;omega);have rP:=zj.snoc hb (by have:=qi.out;omega) (But.refl b w4) f5 zg F6 ⟨_,_,_,_,_,_,n9⟩ j7 (qZ.imp id (fun h=>by omega))
       go_roundg (gk-1)
       case measure=>omega
       case rel=>
        refine⟨ts++[z],_,_,_,q2,by rw [qye,qyh];omega,by rw [qye,qyh];omega,?_,by rw [qye,qyh],rP,h5.keep F6 ?_ (fun g' kI => ?_),by omega,qo,?_⟩
        ·cases ts with
         | nil=>cases yu
         | cons a r=>exact yu
        ·rintro (e | e)
         ·have:=qi.out;omega
         ·have:=(vH.lt _ e).1;have:=qi.out;omega
        ·have:=qQ g' kI;have:=qi.out;rintro (e | e)
         ·omega
         ·have:=(vH.lt _ e).1;omega
        ·rw [vD.out,HN.out,Sx.zop (by rw [H2.out];simpa using hc) (by rw [qys];exact HR.out),qye,qyh,cz.out,pP.out];cases ts with
         | nil=>cases yu
         | cons a r=>rfl
  case rest=>
   obtain⟨ts,xs,l,c,p,rfl,hG,jB,gD,vW,yu,xj⟩:=hcut;obtain⟨x,hx⟩ : ∃x,L[p]? = some x:=⟨_,List.getElem?_eq_getElem (by rw [hL];simp;omega)⟩;obtain⟨jb,hd2,vj⟩:=zc2 hL hx vW;have jp:(⟨#[41]⟩:ByteArray).toList=[41]:=qyw [41];have HL:=qya jp;have HX:=qya hx;have H2:=qya hd2;have H3:=qya vj;have vD:=qya xj;clear jp hx jb hd2 vj xj;cases hc:(x.s.toList == [41])
   ·go_wp2_with fail
    (with_reducible refine (zhw wc b la lc L p jB x HX.out ⟨#[41]⟩ (by rw [HL.out];exact hc)).mono ?_)
    rintro e w4 ⟨rfl,f4⟩;go_wp2;refine⟨rfl,hG.but.trans f4,?_⟩;rw [vD.out,Sx.take,if_neg (by rw [H2.out];simpa using hc)];show panS _=panS _;rw [H3.out]
   ·have vU:=zbb hL HX.out vW (by decide) hc;have xF:M0=.ok (Sx.fin ((fun xs=>Sx.Ex.mk 3 0 [44] [] xs [])) y ts.tail) (toks.drop (p+1)):=by
     rw [vD.out,Sx.take,if_pos (by rw [H2.out];simpa using hc),qys];rfl
    have mP:=qya xF;clear xF
    go_wp2_with fail
    (with_reducible refine (ze3 wc b la lc L p jB x HX.out ⟨#[41]⟩ (by rw [HL.out];exact hc)).mono ?_)
    rintro e w4 ⟨rfl,h4,f4⟩;have zj:=hG.old hb (by have:=qi.out;omega) f4;obtain⟨rc0,rc1,rc2,rc3,rc4,rc5⟩:=zj.res.c6;obtain⟨gc0,gc1,gc2,gc3,gc4,gc5⟩:=zj.res.f6;have qJ:=zj.res.lt;obtain⟨F,fk,td⟩:=zj.tys;have zc:=zj.own;cases ts with
    | nil=>cases yu
    | cons a r=>
     cases yu;cases r with
     | nil=>
      rw [ExsAt] at fk;obtain⟨u0,u1,u2,u3,u4,u5,ys,rfl,fx,sX⟩:=fk;rw [ExsAt] at sX;subst sX;obtain⟨uB,pj,xN,pH,l1,n1,c1,l6,n6,c6,he⟩:=fx.parts;cases he;obtain⟨g,cap,xf,-,-⟩:=zc.form (by simp);cases xf;have d0:w4.cell? ⟨g,0,none⟩=some (.int .i64 uB):=(by rw [zc.cellAt 0 (by simp)];rfl);have d1:w4.cell? ⟨g,1,none⟩=some (.int .i64 pj):=(by rw [zc.cellAt 1 (by simp)];rfl);have d2:w4.cell? ⟨g,2,none⟩=some (.string xN):=(by rw [zc.cellAt 2 (by simp)];rfl);have d3:w4.cell? ⟨g,3,none⟩=some (.string pH):=(by rw [zc.cellAt 3 (by simp)];rfl);have d4:w4.cell? ⟨g,4,none⟩=some (.slice l1 n1 c1):=(by rw [zc.cellAt 4 (by simp)];rfl);have d5:w4.cell? ⟨g,5,none⟩=some (.slice l6 n6 c6):=(by rw [zc.cellAt 5 (by simp)];rfl);go_wp2;have S2:=((((((Fr.refl (fun k=>k=w0.heap.size) w4).setCell ⟨w0.heap.size,0,none⟩ (fun _=>rfl) (.int .i64 uB)).setCell ⟨w0.heap.size,1,none⟩ (fun _=>rfl) (.int .i64 pj)).setCell ⟨w0.heap.size,2,none⟩ (fun _=>rfl) (.string xN)).setCell ⟨w0.heap.size,3,none⟩ (fun _=>rfl) (.string pH)).setCell ⟨w0.heap.size,4,none⟩ (fun _=>rfl) (.slice l1 n1 c1)).setCell ⟨w0.heap.size,5,none⟩ (fun _=>rfl) (.slice l6 n6 c6);have k3:=(((((zj.res.set 0 (.int .i64 uB)).set 1 (.int .i64 pj)).set 2 (.string xN)).set 3 (.string pH)).set 4 (.slice l1 n1 c1)).set 5 (.slice l6 n6 c6);obtain⟨W',qv⟩ : ∃W',(((((w4.setCell ⟨w0.heap.size,0,none⟩ (.int .i64 uB)).setCell ⟨w0.heap.size,1,none⟩ (.int .i64 pj)).setCell ⟨w0.heap.size,2,none⟩ (.string xN)).setCell ⟨w0.heap.size,3,none⟩ (.string pH)).setCell ⟨w0.heap.size,4,none⟩ (.slice l1 n1 c1)).setCell ⟨w0.heap.size,5,none⟩ (.slice l6 n6 c6)=W':=⟨_,rfl⟩;rw [qv] at S2 k3 ⊢;clear qv;obtain⟨s0,s1,s2,s3,s4,s5⟩:=k3.c6;refine bodyPost_ret (v:=.agg #[.int .i64 uB,.int .i64 pj,.string xN,.string pH,.slice l1 n1 c1,.slice l6 n6 c6]) (by simp [results,Tryz.results292,go_sem,s0,s1,s2,s3,s4,s5]) rfl ?_;refine⟨zj.but.trans' S2 (fun k hk e=>by omega),?_⟩;rw [mP.out];exact⟨_,p+1,rfl,rfl,by omega,Nat.succ_le_of_lt vU,h4.keep S2 (by omega) (fun g hg=>by have:=qQ g hg;omega),ExAt.more (fun k hk=>⟨Nat.le_of_lt (td k hk).1,qyc (td k hk).2.1 S2.size⟩) _ _ (fx.keep S2 (fun k hk e=>by have:=(td k hk).1;omega))⟩
     | cons a2 r2=>
      have htwo:(((y::a2::r2:List Sx.Ex).length:Int)==1)=false:=by
       simp only [qxh,qyg,ne_eq];omega
      go_wp2_with fail
      (with_reducible refine (tupleX_is l _ c w4).mono ?_)
      rintro e w5 ⟨rfl,o5⟩;have zo:=zj.old hb (by have:=qi.out;omega) (o5.but b);obtain⟨rc0,rc1,rc2,rc3,rc4,rc5⟩:=zo.res.c6;obtain⟨gc0,gc1,gc2,gc3,gc4,gc5⟩:=zo.res.f6;have qJ:=zo.res.lt;go_wp2;have S2:=((((((Fr.refl (fun k=>k=w0.heap.size) w5).setCell ⟨w0.heap.size,0,none⟩ (fun _=>rfl) (.int .i64 3)).setCell ⟨w0.heap.size,1,none⟩ (fun _=>rfl) (.int .i64 0)).setCell ⟨w0.heap.size,2,none⟩ (fun _=>rfl) (.string ⟨#[44]⟩)).setCell ⟨w0.heap.size,3,none⟩ (fun _=>rfl) (.string ⟨#[]⟩)).setCell ⟨w0.heap.size,4,none⟩ (fun _=>rfl) (.slice l (r2.length+1+1) c)).setCell ⟨w0.heap.size,5,none⟩ (fun _=>rfl) (.slice none 0 0);have k3:=(((((zo.res.set 0 (.int .i64 3)).set 1 (.int .i64 0)).set 2 (.string ⟨#[44]⟩)).set 3 (.string ⟨#[]⟩)).set 4 (.slice l (r2.length+1+1) c)).set 5 (.slice none 0 0);obtain⟨W',qv⟩ : ∃W',(((((w5.setCell ⟨w0.heap.size,0,none⟩ (.int .i64 3)).setCell ⟨w0.heap.size,1,none⟩ (.int .i64 0)).setCell ⟨w0.heap.size,2,none⟩ (.string ⟨#[44]⟩)).setCell ⟨w0.heap.size,3,none⟩ (.string ⟨#[]⟩)).setCell ⟨w0.heap.size,4,none⟩ (.slice l (r2.length+1+1) c)).setCell ⟨w0.heap.size,5,none⟩ (.slice none 0 0)=W':=⟨_,rfl⟩;rw [qv] at S2 k3 ⊢;clear qv;obtain⟨s0,s1,s2,s3,s4,s5⟩:=k3.c6;refine bodyPost_ret (v:=.agg #[.int .i64 3,.int .i64 0,.string ⟨#[44]⟩,.string ⟨#[]⟩,.slice l (r2.length+1+1) c,.slice none 0 0]) (by simp [results,Tryz.results292,go_sem,s0,s1,s2,s3,s4,s5]) rfl ?_;refine⟨zo.but.trans' S2 (fun k hk e=>by omega),?_⟩;rw [mP.out];obtain⟨F5,gq,th⟩:=zo.tys;have gM:w5.ownsRow (w2.heap.size+1) 32 6 (.slice l (r2.length+1+1) c) (r2.length+1+1) xs:=zo.own;refine⟨_,p+1,rfl,rfl,by omega,Nat.succ_le_of_lt vU,(h4.old o5).keep S2 (by omega) (fun g hg=>by have:=qQ g hg;omega),?_⟩;show ExAt W' _ (Sx.Ex.mk 3 0 [44] [] (y::a2::r2) []) _;rw [ExAt];have jQ:=fun k hk=>gM.lt k hk;have z5:=S2.size;have hX0:w0.heap.size<w2.heap.size:=(by have:=qi.out;omega);refine⟨_,xs,_,[],rfl,⟨zaa (gM.mono (qyi _)) S2 (fun k hk e=>by have:=(jQ k hk).1;omega),fun k hk=>⟨by have:=(jQ k hk).1;omega,qyc (jQ k hk).2 z5⟩⟩,ExsAt.more (fun k hk=>⟨Nat.le_of_lt (th k hk).1,qyc (th k hk).2.1 z5⟩) _ _ (gq.keep S2 (fun k hk e=>by have:=(th k hk).1;omega)),⟨⟨rfl,.inl ⟨rfl,rfl⟩⟩,fun k hk=>by cases hk⟩,by rw [PasAt]⟩
end Go.Proofs.YtclgbmmambkiaaaGreatDoor.E

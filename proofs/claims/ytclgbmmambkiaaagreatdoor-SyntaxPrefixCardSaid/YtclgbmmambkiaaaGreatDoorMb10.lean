/- Part 10 -/
import Derived.Test.YtclgbmmambkiaaaGreatDoorMb09
import Derived.Deep.RegionHeld3
import Derived.StillTailTactics
set_option maxRecDepth 100000
set_option maxHeartbeats 4000000
set_option linter.unusedVariables false
set_option linter.unusedSimpArgs false
namespace Go.Proofs.YtclgbmmambkiaaaGreatDoor
open Go.RowKit
theorem zmx(ds:List Sx.Decl):(Sx.zav ds).es=ds.flatMap fun d=>(Sx.zb7 d).es:=rfl
theorem zmw(ds:List Sx.Decl):(Sx.zav ds).ts=ds.flatMap fun d=>(Sx.zb7 d).ts:=rfl
theorem zet{a b g:Nat}(h:a<b)(hg:g=b-a):b-(a+1)<g:=by omega
theorem zqg{w:World}{b:Nat}{e:TypeId}{size n:Nat}{v:Value}{xs:List Value}(h:w.ownsRow b e size v n xs):w.ownsRow 0 e size v n xs:=by
 obtain⟨h1,h2⟩:=h;refine⟨h1,?_⟩;rcases h2 with h2 | ⟨g,cap,vy,hv,_,r⟩
 ·exact .inl h2
 ·exact .inr ⟨g,cap,vy,hv,qyi _,r⟩
theorem zlv{w:World}{b:Nat}{cs:List Value}{T:TypeId}{m:Nat}(h:Blk w b cs.toArray T)(hm:cs.length=m):w.ownsRow 0 T m (.slice (some ⟨b,0,none⟩) 1 1) 1 cs:=
 ⟨by omega,.inr ⟨b,1,_,rfl,qyi _,h,qyb _,by unfold maxLen;omega,by simp [hm],by rw [Nat.one_mul];exact List.take_of_length_le (by simp;omega)⟩⟩
theorem zfu(ds:List Sx.Decl)(F:Nat→Prop)(v:Value)(w0:World)(hF : ∀k,F k→k<w0.heap.size)(hp:G.ProgAt w0 F ds v)(pX:(Sx.zav ds).es.length≤1000000)(pK:(Sx.zav ds).ts.length≤1000000) :
  Calls Tryz.prog 65 #[v] w0 fun e w'=>Old w0 w'∧∃(fv:Value) (F':Nat→Prop),e=.returned fv∧FoAt w' F' (Sx.zav ds) fv∧∀k,F' k→k<w'.heap.size:=by
 obtain⟨sv,rfl,ug⟩:=hp;obtain⟨l0,c0,rfl⟩:=ug.parts;obtain⟨xs,qK,yP⟩:=ug;have qz:=qK.1;have zi:ds.length≤maxLen:=zbm qK;obtain⟨s,hs⟩ : ∃s,w0.heap.size=s:=⟨_,rfl⟩;obtain⟨iE,hiE,hzE,ry,rx⟩:=info_parts zy2;obtain⟨iT,hiT,hzT,hzT1,hzT2⟩:=info_parts zyz;have vZ:=qya (And.intro (And.intro hiE (And.intro hzE (And.intro ry rx))) (And.intro hiT (And.intro hzT (And.intro hzT1 hzT2))));clear hiE hzE ry rx hiT hzT hzT1 hzT2;have T0:TrAt s w0 F (.slice l0 ds.length c0) [] [] (.slice none 0 0) (.slice none 0 0) (((w0.alloc (.cells #[.slice l0 ds.length c0] 25)).alloc (.cells #[.slice none 0 0,.slice none 0 0,.slice none 0 0] 120)).alloc (.cells #[.slice none 0 0,.slice none 0 0,.slice none 0 0] 120)):=
  ⟨by rw [← hs];exact ((Blk.new w0 _ _).alloc _).alloc _,(Blk.new' (by simp [hs]) _ _).alloc _,Blk.new' (by simp [hs]) _ _,⟨[],⟨rfl,.inl ⟨rfl,rfl⟩⟩,by rw [ExsAt]⟩,⟨[],⟨rfl,.inl ⟨rfl,rfl⟩⟩,by rw [TysAt]⟩,(((Old.refl w0).alloc _).alloc _).alloc _⟩
 have p0:=T0.bp.c 0 (.slice l0 ds.length c0) rfl;rw [← hs] at p0;have HS:=qya hs;have HT0:=qya T0;clear T0 hs
 go_enter Tryz.func65,Tryz.ntmps65
 go_wp2_with fail
 rw [HS.out]
 go_loopg [13] ds.length (fun g s13 wr=>∃(i:Nat) (le lt:Option Addr) (ce ct:Nat),g=ds.length-i∧i≤ds.length∧s13=.int .i64 i∧TrAt s w0 F (.slice l0 ds.length c0) (Sx.zav (ds.take i)).es (Sx.zav (ds.take i)).ts (.slice le (Sx.zav (ds.take i)).es.length ce) (.slice lt (Sx.zav (ds.take i)).ts.length ct) wr)
 case atStart=>exact⟨0,none,none,0,0,rfl,qyi _,rfl,HT0.out⟩
 case round=>
  obtain⟨i,le,lt,ce,ct,hg,hi,rfl,hT⟩:=hrel;have HG:=qya hg;have HN:=qya zi;clear hg HT0;cases hd:decide ((i:Int)<(ds.length:Int))
  ·have he:i=ds.length:=(by simp only [qyn] at hd;omega);have xq:decide (i<ds.length)=false:=qyk (by omega);rw [he,List.take_length] at hT;obtain⟨k0,k1,k2⟩:=hT.bf.c3;obtain⟨r0,r1,r2⟩:=hT.br.c3;obtain⟨rg0,rg1,rg2⟩:=hT.br.f3;have qJ:=hT.br.lt;have HE:=qya he;clear he hi zi pX pK hd;go_wp2;obtain⟨Wf,qv,S2,k3,-⟩:=hT.br.put3 (.slice le (Sx.zav ds).es.length ce) (.slice none 0 0) (.slice lt (Sx.zav ds).ts.length ct);rw [qv];clear qv;obtain⟨qP,qC,qA⟩:=k3.c3;refine bodyPost_ret (v:=.agg #[.slice le (Sx.zav ds).es.length ce,.slice none 0 0,.slice lt (Sx.zav ds).ts.length ct]) (by simp [results,Tryz.results65,go_sem,qP,qC,qA]) rfl ?_;have hs:=HS.out;obtain⟨xe,h1,h2⟩:=hT.oe;obtain⟨xt,h3,h4⟩:=hT.ot;have hoe:=h1.lt;have hot:=h3.lt;have hSe : ∀k,(Value.slice le (Sx.zav ds).es.length ce).ownBlock=some k→¬k=s+1:=fun k hk=>by have:=(hoe k hk).1;omega
   have hSt : ∀k,(Value.slice lt (Sx.zav ds).ts.length ct).ownBlock=some k→¬k=s+1:=fun k hk=>by have:=(hot k hk).1;omega
   have hSF : ∀k,F k→¬k=s+1:=fun k hk=>by have:=hF k hk;omega
   refine⟨hT.fr.trans' S2 (fun k hk e=>by omega),_,fun k=>F k∨(Value.slice le (Sx.zav ds).es.length ce).ownBlock=some k∨(Value.slice lt (Sx.zav ds).ts.length ct).ownBlock=some k,rfl,⟨_,xe,_,[],_,xt,rfl,⟨zqg (zaa h1 S2 hSe),fun k hk=>.inr (.inl hk)⟩,ExsAt.more (fun k hk=>.inl hk) _ _ (ExsAt.keep S2 hSF _ _ h2),RowAt.none ..,(by show PasAt Wf _ [] [];rw [PasAt]),⟨zqg (zaa h3 S2 hSt),fun k hk=>.inr (.inr hk)⟩,TysAt.more (fun k hk=>.inl hk) _ _ (TysAt.keep S2 hSF _ _ h4)⟩,fun k hk => ?_⟩;have z:=S2.size;have z2:=hT.fr.size;rcases hk with hk | hk | hk
   ·have:=hF k hk;omega
   ·have:=(hoe k hk).2;omega
   ·have:=(hot k hk).2;omega
  ·have qx:i<ds.length:=(by simp only [qyo] at hd;omega);have qk:=zaa qz hT.fr (fun _ _ e=>e);obtain⟨cells,hm,vY,qn⟩:=ElsAt.nth ds xs yP i qx;have vG:=Sx.zpq (fun d=>(Sx.zb7 d).es) ds i qx;have qo:=Sx.zpq (fun d=>(Sx.zb7 d).ts) ds i qx;have dX:=Sx.zgo (fun d=>(Sx.zb7 d).es) ds i qx;have dK:=Sx.zgo (fun d=>(Sx.zb7 d).ts) ds i qx;rw [← zmx] at vG dX;rw [← zmw] at qo dK;rw [← zmx] at vG dX;rw [← zmw] at qo dK;obtain⟨y,hy⟩ : ∃y,ds[i]=y:=⟨_,rfl⟩;rw [hy] at vY vG qo dX dK;clear hy;obtain⟨es,hes⟩ : ∃es,(Sx.zav (ds.take i)).es=es:=⟨_,rfl⟩;obtain⟨ts,hts2⟩ : ∃ts,(Sx.zav (ds.take i)).ts=ts:=⟨_,rfl⟩;rw [hes] at hT vG dX;rw [hts2] at hT qo dK;have cj:=qya (And.intro dX dK);clear hes hts2 dX dK;have xE:DeclAt wr F y (.agg cells.toArray):=zcc.keep hT.fr (fun _ _ e=>e) _ _ vY;obtain⟨g,cap,xf,-,-⟩:=qk.form (by omega);cases xf;have jy:wrap64 ((i:Int)+1)=((i+1:Nat):Int):=by
    rw [IntWalk.wrap64_in _ (by unfold maxLen at zi;omega)];omega
   have zw:=qya qx;have ze:=qya jy;have xq:decide (i<ds.length)=true:=qyl qx;have gN:=qya (And.intro vG qo);have hws:s+3≤wr.heap.size:=hT.bf.lt;cases y with
   | data dn vs cs=>
    rw [DeclAt] at vY;obtain⟨t0,vv,cv0,vr,tt,vv2,cv2,sU,dF,hrv,gC⟩:=vY;simp only [Value.agg.injEq,Array.mk.injEq,List.cons.injEq,and_true,Value.string.injEq] at sU;obtain⟨rfl,rfl,rfl⟩:=sU;obtain⟨lv,cv,hvv⟩:=zad hrv.1;subst hvv;obtain⟨nv,hnv⟩ : ∃nv,vs.length=nv:=⟨_,rfl⟩;have gC:LsAt ConAt 177 2 w0 F cs cv0:=gC;obtain⟨lc,cc,hcv⟩:=gC.parts;subst hcv;obtain⟨xc,ff,htc⟩:=gC;have bG:=ff.1;have hnc:=zbm ff;rw [show (dn,vs,cs).2.1.length=vs.length from rfl,hnv] at vr;clear hnv hrv;have pZ:=zj1 vr;subst pZ;have d0:wr.cell? ⟨g,i*14,none⟩=some (.int .i64 1):=(by rw [qk.cellAt (i*14) (by omega),show i*14=i*14+0 from rfl,qn 0 (by omega)];rfl);have d1:wr.cell? ⟨g,i*14+1,none⟩=some (.string t0):=(by rw [qk.cellAt (i*14+1) (by omega),qn 1 (by omega)];rfl);have d2:wr.cell? ⟨g,i*14+2,none⟩=some (.slice lv nv cv):=(by rw [qk.cellAt (i*14+2) (by omega),qn 2 (by omega)];rfl);have d3:wr.cell? ⟨g,i*14+3,none⟩=some (.slice lc cs.length cc):=(by rw [qk.cellAt (i*14+3) (by omega),qn 3 (by omega)];rfl);have d4:wr.cell? ⟨g,i*14+4,none⟩=some (.string ⟨#[]⟩):=(by rw [qk.cellAt (i*14+4) (by omega),qn 4 (by omega)];rfl);have d5:wr.cell? ⟨g,i*14+5,none⟩=some (.string ⟨#[]⟩):=(by rw [qk.cellAt (i*14+5) (by omega),qn 5 (by omega)];rfl);have d6:wr.cell? ⟨g,i*14+6,none⟩=some (.slice none 0 0):=(by rw [qk.cellAt (i*14+6) (by omega),qn 6 (by omega)];rfl);have d7:wr.cell? ⟨g,i*14+7,none⟩=some (.slice none 0 0):=(by rw [qk.cellAt (i*14+7) (by omega),qn 7 (by omega)];rfl);have d8:wr.cell? ⟨g,i*14+8,none⟩=some (.int .i64 0):=(by rw [qk.cellAt (i*14+8) (by omega),qn 8 (by omega)];rfl);have d9:wr.cell? ⟨g,i*14+9,none⟩=some (.int .i64 0):=(by rw [qk.cellAt (i*14+9) (by omega),qn 9 (by omega)];rfl);have d10:wr.cell? ⟨g,i*14+10,none⟩=some (.string ⟨#[]⟩):=(by rw [qk.cellAt (i*14+10) (by omega),qn 10 (by omega)];rfl);have d11:wr.cell? ⟨g,i*14+11,none⟩=some (.string ⟨#[]⟩):=(by rw [qk.cellAt (i*14+11) (by omega),qn 11 (by omega)];rfl);have d12:wr.cell? ⟨g,i*14+12,none⟩=some (.slice none 0 0):=(by rw [qk.cellAt (i*14+12) (by omega),qn 12 (by omega)];rfl);have d13:wr.cell? ⟨g,i*14+13,none⟩=some (.slice none 0 0):=(by rw [qk.cellAt (i*14+13) (by omega),qn 13 (by omega)];rfl);have oX:=(Old.refl wr).alloc (.cells #[.int .i64 1,.string t0,.slice lv nv cv,.slice lc cs.length cc,.string ⟨#[]⟩,.string ⟨#[]⟩,.slice none 0 0,.slice none 0 0,.int .i64 0,.int .i64 0,.string ⟨#[]⟩,.string ⟨#[]⟩,.slice none 0 0,.slice none 0 0] 84);have kX:=Blk.new wr #[.int .i64 1,.string t0,.slice lv nv cv,.slice lc cs.length cc,.string ⟨#[]⟩,.string ⟨#[]⟩,.slice none 0 0,.slice none 0 0,.int .i64 0,.int .i64 0,.string ⟨#[]⟩,.string ⟨#[]⟩,.slice none 0 0,.slice none 0 0] 84;have TX:=hT.old oX;obtain⟨x0,x1,x2,x3,x4,x5,x6,x7,x8,x9,ym,yr,yn,yb⟩:=kX.c14;have b9:ts.length+((cs.flatMap Sx.Con.args).length)≤1000000:=(by have:=gN.out.2;simp only [Sx.zb7] at this;omega);have HBN:=qya b9;clear jy zi vG qo hm qn vr pX pK qx hi b9
    go_wp2_with fail
    go_loopg [25] cs.length (fun g2 s2 w2=>∃(j:Nat) (zn:List Sx.Ty) (lt2:Option Addr) (ct2:Nat),g2=cs.length-j∧j≤cs.length∧zn=ts++(cs.take j).flatMap Sx.Con.args∧s2=.int .i64 j∧TrAt s w0 F (.slice (some ⟨g,0,none⟩) ds.length c0) es zn (.slice le es.length ce) (.slice lt2 zn.length ct2) w2)
    case atStart=>
     refine⟨0,ts,lt,ct,rfl,qyi _,by simp,rfl,TX⟩
    case round=>
     obtain⟨j,zn,lt2,ct2,xW,hj,ky,rfl,nz⟩:=hrel;have pD:=qya ky;clear ky
     rename World=>w2
     have HG2:=qya xW;clear xW;cases hd2:decide ((j:Int)<(cs.length:Int))
     ·have rX:j=cs.length:=(by simp only [qyn] at hd2;omega);have eh:decide (j<cs.length)=false:=qyk (by omega);have ky:=pD.out;rw [rX,List.take_length] at ky;have HAC:=qya ky;clear ky;have jy:=ze.out;have HJ:=qya rX;clear rX hj HG2;go_wp2
      go_roundg (ds.length-(i+1))
      case measure=>exact zet zw.out HG.out
      case rel=>
       refine⟨i+1,le,lt2,ce,ct2,rfl,zw.out,by first | rfl | rw [ze.out],?_⟩;rw [cj.out.1,cj.out.2];simp only [Sx.zb7,List.append_nil];rw [← HAC.out];exact nz
     ·have jh:j<cs.length:=(by simp only [qyo] at hd2;omega);have eh:decide (j<cs.length)=true:=qyl jh;have tw:Old w0 w2:=nz.fr;have xT:=zaa bG tw (fun _ _ e=>e);obtain⟨pF,tE,bJ,yq⟩:=ElsAt.nth cs xc htc j jh;have hfl:=Sx.zpq Sx.Con.args cs j jh;have ek:=Sx.zgo Sx.Con.args cs j jh;obtain⟨z,hz⟩ : ∃z,cs[j]=z:=⟨_,rfl⟩;rw [hz] at bJ ek hfl;clear hz;have rp:ConAt w2 F z (.agg pF.toArray):=zb1.keep tw (fun _ _ e=>e) _ _ bJ;obtain⟨cn,sva,xa,dW,hcn,hra,hxa⟩:=rp;obtain⟨la,ca,hva⟩:=zad hra.1;subst hva;obtain⟨na,hna⟩ : ∃na,z.args.length=na:=⟨_,rfl⟩;rw [hna] at dW hra;have HNA:=qya hna;clear hna;have et:=zj1 dW;subst et;obtain⟨g2,tQ,lE,-,-⟩:=xT.form (by omega);cases lE;have y0:w2.cell? ⟨g2,j*2,none⟩=some (.string cn):=(by rw [xT.cellAt (j*2) (by omega),show j*2=j*2+0 from rfl,yq 0 (by omega)];rfl);have y1:w2.cell? ⟨g2,j*2+1,none⟩=some (.slice la na ca):=(by rw [xT.cellAt (j*2+1) (by omega),yq 1 (by omega)];rfl);have pu:wrap64 ((j:Int)+1)=((j+1:Nat):Int):=by
       rw [IntWalk.wrap64_in _ (by unfold maxLen at hnc;omega)];omega
      have tW:=qya pu;have tH:=qya jh;have HFT:=qya ek;have oY:=(Old.refl w2).alloc (.cells #[.string cn,.slice la na ca] 177);have kY:=Blk.new w2 #[.string cn,.slice la na ca] 177;have TY:=nz.old oY;obtain⟨u0,u1⟩:=kY.c2;have b0:=TY.bf.c 2 (.slice lt2 zn.length ct2) rfl;have sH:=TY.bf.lt;have hw2s:s+3≤w2.heap.size:=nz.bf.lt;have T2:=TY;have vz:(w2.alloc (.cells #[.string cn,.slice la na ca] 177)).ownsRow 0 35 2 (.slice la na ca) na xa:=zaa hra.1 oY (fun _ _ e=>e);have xX:TysAt (w2.alloc (.cells #[.string cn,.slice la na ca] 177)) F z.args xa:=TysAt.keep oY (fun _ _ e=>e) _ _ hxa;have b7:zn.length+na≤1000000:=by
       have:=HBN.out;have:=HNA.out;rw [pD.out,qye];omega
      have bH:=TysAt.cells1 _ _ xX;obtain⟨yo,zJ,cr⟩:=T2.ot;have uY:s+3≤(w2.alloc (.cells #[.string cn,.slice la na ca] 177)).heap.size:=(by simp;omega);have gU:=qya vz;have tD:=qya b7;have eL:=qya bH;have mF:=qya uY;clear pu jh hj tE yq dW hfl ek vz b7 bH uY
      go_wp2_with (first | (at_builtin;refine zea _ _ rfl ?_) | fail)
      refine Stop.mk ?_;refine zb8 _ rfl _ _ 33 rfl (s+3) 35 iT (.agg #[.string ⟨#[]⟩,.slice none 0 0]) 2 40 Tryz.underlying33 vZ.out.2.1 vZ.out.2.2.1 vZ.out.2.2.2.1 vZ.out.2.2.2.2 rfl (by decide) _ _ yo rfl zJ (.slice la na ca) na xa 0 rfl gU.out eL.out (by unfold maxLen;have:=tD.out;omega) (by have:=tD.out;omega) mF.out ?_;intro v' w3 fp vF qZ;obtain⟨l3,c3,rfl⟩:=zad fp;have T4:=TrAt.addT T2 HS.out (by have:=HS.out;rw [this] at hF;exact hF) zJ cr xX (by rw [HNA.out];exact fp) vF qZ;have F3:Fr (fun k=>(Value.slice lt2 zn.length ct2).ownBlock=some k) (w2.alloc (.cells #[.string cn,.slice la na ca] 177)) w3:=(Fr.refl _ _).grown vF (fun k e _=>e);have K3:=T2.bf.keep F3 (fun e=>by have:=(zJ.lt _ e).1;omega);have qc:=K3.c 2 (.slice lt2 zn.length ct2) rfl;have qg:=K3.free 2;have pu:=tW.out;go_wp2
      go_roundg (cs.length-(j+1))
      case measure=>exact zet tH.out HG2.out
      case rel=>
       refine⟨j+1,zn++z.args,l3,c3,rfl,tH.out,by rw [HFT.out,← List.append_assoc,← pD.out],by first | rfl | rw [tW.out],?_⟩;rw [qye,HNA.out];exact T4
   | input dn t=>
    rw [DeclAt] at xE;obtain⟨t0,a0,a1,vr,dF,hx⟩:=xE;obtain⟨nm,la,na,ca,kW⟩:=hx.parts;simp only [Value.agg.injEq,Array.mk.injEq,List.cons.injEq,and_true] at kW;obtain⟨rfl,rfl⟩:=kW;have pZ:=zj1 vr;subst pZ;have d0:wr.cell? ⟨g,i*14,none⟩=some (.int .i64 2):=(by rw [qk.cellAt (i*14) (by omega),show i*14=i*14+0 from rfl,qn 0 (by omega)];rfl);have d1:wr.cell? ⟨g,i*14+1,none⟩=some (.string ⟨#[]⟩):=(by rw [qk.cellAt (i*14+1) (by omega),qn 1 (by omega)];rfl);have d2:wr.cell? ⟨g,i*14+2,none⟩=some (.slice none 0 0):=(by rw [qk.cellAt (i*14+2) (by omega),qn 2 (by omega)];rfl);have d3:wr.cell? ⟨g,i*14+3,none⟩=some (.slice none 0 0):=(by rw [qk.cellAt (i*14+3) (by omega),qn 3 (by omega)];rfl);have d4:wr.cell? ⟨g,i*14+4,none⟩=some (.string t0):=(by rw [qk.cellAt (i*14+4) (by omega),qn 4 (by omega)];rfl);have d5:wr.cell? ⟨g,i*14+5,none⟩=some (.string nm):=(by rw [qk.cellAt (i*14+5) (by omega),qn 5 (by omega)];rfl);have d6:wr.cell? ⟨g,i*14+6,none⟩=some (.slice la na ca):=(by rw [qk.cellAt (i*14+6) (by omega),qn 6 (by omega)];rfl);have d7:wr.cell? ⟨g,i*14+7,none⟩=some (.slice none 0 0):=(by rw [qk.cellAt (i*14+7) (by omega),qn 7 (by omega)];rfl);have d8:wr.cell? ⟨g,i*14+8,none⟩=some (.int .i64 0):=(by rw [qk.cellAt (i*14+8) (by omega),qn 8 (by omega)];rfl);have d9:wr.cell? ⟨g,i*14+9,none⟩=some (.int .i64 0):=(by rw [qk.cellAt (i*14+9) (by omega),qn 9 (by omega)];rfl);have d10:wr.cell? ⟨g,i*14+10,none⟩=some (.string ⟨#[]⟩):=(by rw [qk.cellAt (i*14+10) (by omega),qn 10 (by omega)];rfl);have d11:wr.cell? ⟨g,i*14+11,none⟩=some (.string ⟨#[]⟩):=(by rw [qk.cellAt (i*14+11) (by omega),qn 11 (by omega)];rfl);have d12:wr.cell? ⟨g,i*14+12,none⟩=some (.slice none 0 0):=(by rw [qk.cellAt (i*14+12) (by omega),qn 12 (by omega)];rfl);have d13:wr.cell? ⟨g,i*14+13,none⟩=some (.slice none 0 0):=(by rw [qk.cellAt (i*14+13) (by omega),qn 13 (by omega)];rfl);have oX:=(Old.refl wr).alloc (.cells #[.int .i64 2,.string ⟨#[]⟩,.slice none 0 0,.slice none 0 0,.string t0,.string nm,.slice la na ca,.slice none 0 0,.int .i64 0,.int .i64 0,.string ⟨#[]⟩,.string ⟨#[]⟩,.slice none 0 0,.slice none 0 0] 84);have kX:=Blk.new wr #[.int .i64 2,.string ⟨#[]⟩,.slice none 0 0,.slice none 0 0,.string t0,.string nm,.slice la na ca,.slice none 0 0,.int .i64 0,.int .i64 0,.string ⟨#[]⟩,.string ⟨#[]⟩,.slice none 0 0,.slice none 0 0] 84;have TX:=hT.old oX;obtain⟨x0,x1,x2,x3,x4,x5,x6,x7,x8,x9,ym,yr,yn,yb⟩:=kX.c14;have o2:=oX.alloc (.cells #[.string nm,.slice la na ca] 35);have T2:=hT.old o2;have kN:Blk ((wr.alloc (.cells #[.int .i64 2,.string ⟨#[]⟩,.slice none 0 0,.slice none 0 0,.string t0,.string nm,.slice la na ca,.slice none 0 0,.int .i64 0,.int .i64 0,.string ⟨#[]⟩,.string ⟨#[]⟩,.slice none 0 0,.slice none 0 0] 84)).alloc (.cells #[.string nm,.slice la na ca] 35)) (wr.heap.size+1) #[.string nm,.slice la na ca] 35:=Blk.new' (by simp) _ _;have b0:=TX.bf.c 0 (.slice le es.length ce) rfl;have b2:=TX.bf.c 2 (.slice lt ts.length ct) rfl;obtain⟨ye,di,hxe3⟩:=T2.oe;obtain⟨yt,zJ,cr⟩:=T2.ot;have sH:=TX.bf.lt;have xX:TysAt ((wr.alloc (.cells #[.int .i64 2,.string ⟨#[]⟩,.slice none 0 0,.slice none 0 0,.string t0,.string nm,.slice la na ca,.slice none 0 0,.int .i64 0,.int .i64 0,.string ⟨#[]⟩,.string ⟨#[]⟩,.slice none 0 0,.slice none 0 0] 84)).alloc (.cells #[.string nm,.slice la na ca] 35)) F [t] [.string nm,.slice la na ca]:=by
     rw [TysAt];exact⟨_,_,[],rfl,TyAt.keep o2 (fun _ _ e=>e) _ _ hx,by rw [TysAt]⟩
    have vz:=zlv (m:=2) kN rfl;have gU:=qya vz;have jE:((wr.alloc (.cells #[.int .i64 2,.string ⟨#[]⟩,.slice none 0 0,.slice none 0 0,.string t0,.string nm,.slice la na ca,.slice none 0 0,.int .i64 0,.int .i64 0,.string ⟨#[]⟩,.string ⟨#[]⟩,.slice none 0 0,.slice none 0 0] 84)).alloc (.cells #[.string nm,.slice la na ca] 35)).heap.size=wr.heap.size+1+1:=(by simp);have HZ2:=qya jE;have dh:=qya (show (ts.length+1)≤1000000 by have:=gN.out.2;simp only [Sx.zb7,qxh,qxi] at this;omega);clear jy zi vG qo hm qn vr pX pK qx hi vz jE
    go_wp2_with (first | (at_builtin;refine zea _ _ rfl ?_) | fail)
    refine Stop.mk ?_;refine zb8 _ rfl _ _ 33 rfl (s+3) 35 iT (.agg #[.string ⟨#[]⟩,.slice none 0 0]) 2 40 Tryz.underlying33 vZ.out.2.1 vZ.out.2.2.1 vZ.out.2.2.2.1 vZ.out.2.2.2.2 rfl (by decide) _ ts.length yt rfl zJ (.slice (some ⟨wr.heap.size+1,0,none⟩) 1 1) 1 [.string nm,.slice la na ca] 0 rfl gU.out (by simp [Value.oneCell']) (by unfold maxLen;have:=dh.out;omega) (by have:=dh.out;omega) (by have:=HZ2.out;omega) ?_;intro v' w3 jM vF qZ;obtain⟨l3,c3,rfl⟩:=zad jM;have T4:=TrAt.addT T2 HS.out (by have:=HS.out;rw [this] at hF;exact hF) zJ cr xX jM vF qZ;have F3:Fr (fun k=>(Value.slice lt ts.length ct).ownBlock=some k) ((wr.alloc (.cells #[.int .i64 2,.string ⟨#[]⟩,.slice none 0 0,.slice none 0 0,.string t0,.string nm,.slice la na ca,.slice none 0 0,.int .i64 0,.int .i64 0,.string ⟨#[]⟩,.string ⟨#[]⟩,.slice none 0 0,.slice none 0 0] 84)).alloc (.cells #[.string nm,.slice la na ca] 35)) w3:=(Fr.refl _ _).grown vF (fun k e _=>e);have K3:=T2.bf.keep F3 (fun e=>by have:=(zJ.lt _ e).1;omega);have q2:=K3.c 2 (.slice lt ts.length ct) rfl;have qg:=K3.free 2;have jy:=ze.out;go_wp2
    go_roundg (ds.length-(i+1))
    case measure=>exact zet zw.out HG.out
    case rel=>
     refine⟨i+1,le,l3,ce,c3,rfl,zw.out,by first | rfl | rw [ze.out],?_⟩;rw [cj.out.1,cj.out.2];simp only [Sx.zb7,List.append_nil,qye,qxh,qxi,Nat.zero_add];exact T4
   | funs fs=>
    rw [DeclAt] at vY;obtain⟨fv,vr,gC⟩:=vY;obtain⟨lc,cc,hcv⟩:=gC.parts;subst hcv;obtain⟨xc,ff,htc⟩:=gC;have bG:=ff.1;have hnc:=zbm ff;have pZ:=zj1 vr;subst pZ;have d0:wr.cell? ⟨g,i*14,none⟩=some (.int .i64 3):=(by rw [qk.cellAt (i*14) (by omega),show i*14=i*14+0 from rfl,qn 0 (by omega)];rfl);have d1:wr.cell? ⟨g,i*14+1,none⟩=some (.string ⟨#[]⟩):=(by rw [qk.cellAt (i*14+1) (by omega),qn 1 (by omega)];rfl);have d2:wr.cell? ⟨g,i*14+2,none⟩=some (.slice none 0 0):=(by rw [qk.cellAt (i*14+2) (by omega),qn 2 (by omega)];rfl);have d3:wr.cell? ⟨g,i*14+3,none⟩=some (.slice none 0 0):=(by rw [qk.cellAt (i*14+3) (by omega),qn 3 (by omega)];rfl);have d4:wr.cell? ⟨g,i*14+4,none⟩=some (.string ⟨#[]⟩):=(by rw [qk.cellAt (i*14+4) (by omega),qn 4 (by omega)];rfl);have d5:wr.cell? ⟨g,i*14+5,none⟩=some (.string ⟨#[]⟩):=(by rw [qk.cellAt (i*14+5) (by omega),qn 5 (by omega)];rfl);have d6:wr.cell? ⟨g,i*14+6,none⟩=some (.slice none 0 0):=(by rw [qk.cellAt (i*14+6) (by omega),qn 6 (by omega)];rfl);have d7:wr.cell? ⟨g,i*14+7,none⟩=some (.slice lc fs.length cc):=(by rw [qk.cellAt (i*14+7) (by omega),qn 7 (by omega)];rfl);have d8:wr.cell? ⟨g,i*14+8,none⟩=some (.int .i64 0):=(by rw [qk.cellAt (i*14+8) (by omega),qn 8 (by omega)];rfl);have d9:wr.cell? ⟨g,i*14+9,none⟩=some (.int .i64 0):=(by rw [qk.cellAt (i*14+9) (by omega),qn 9 (by omega)];rfl);have d10:wr.cell? ⟨g,i*14+10,none⟩=some (.string ⟨#[]⟩):=(by rw [qk.cellAt (i*14+10) (by omega),qn 10 (by omega)];rfl);have d11:wr.cell? ⟨g,i*14+11,none⟩=some (.string ⟨#[]⟩):=(by rw [qk.cellAt (i*14+11) (by omega),qn 11 (by omega)];rfl);have d12:wr.cell? ⟨g,i*14+12,none⟩=some (.slice none 0 0):=(by rw [qk.cellAt (i*14+12) (by omega),qn 12 (by omega)];rfl);have d13:wr.cell? ⟨g,i*14+13,none⟩=some (.slice none 0 0):=(by rw [qk.cellAt (i*14+13) (by omega),qn 13 (by omega)];rfl);have oX:=(Old.refl wr).alloc (.cells #[.int .i64 3,.string ⟨#[]⟩,.slice none 0 0,.slice none 0 0,.string ⟨#[]⟩,.string ⟨#[]⟩,.slice none 0 0,.slice lc fs.length cc,.int .i64 0,.int .i64 0,.string ⟨#[]⟩,.string ⟨#[]⟩,.slice none 0 0,.slice none 0 0] 84);have kX:=Blk.new wr #[.int .i64 3,.string ⟨#[]⟩,.slice none 0 0,.slice none 0 0,.string ⟨#[]⟩,.string ⟨#[]⟩,.slice none 0 0,.slice lc fs.length cc,.int .i64 0,.int .i64 0,.string ⟨#[]⟩,.string ⟨#[]⟩,.slice none 0 0,.slice none 0 0] 84;have TX:=hT.old oX;obtain⟨x0,x1,x2,x3,x4,x5,x6,x7,x8,x9,ym,yr,yn,yb⟩:=kX.c14;have b9:es.length+fs.length≤1000000:=(by have:=gN.out.1;simp only [Sx.zb7,List.length_map] at this;omega);have HBN:=qya b9;clear jy zi vG qo hm qn vr pX pK qx hi b9
    go_wp2_with fail
    go_loopg [50] fs.length (fun g2 s2 w2=>∃(j:Nat) (zn:List Sx.Ex) (le2:Option Addr) (ce2:Nat),g2=fs.length-j∧j≤fs.length∧zn=es++(fs.take j).map Sx.Fun.body∧s2=.int .i64 j∧TrAt s w0 F (.slice (some ⟨g,0,none⟩) ds.length c0) zn ts (.slice le2 zn.length ce2) (.slice lt ts.length ct) w2)
    case atStart=>
     refine⟨0,es,le,ce,rfl,qyi _,by simp,rfl,TX⟩
    case round=>
     obtain⟨j,zn,le2,ce2,xW,hj,ky,rfl,nz⟩:=hrel;have pD:=qya ky;clear ky
     rename World=>w2
     have HG2:=qya xW;clear xW;cases hd2:decide ((j:Int)<(fs.length:Int))
     ·have rX:j=fs.length:=(by simp only [qyn] at hd2;omega);have eh:decide (j<fs.length)=false:=qyk (by omega);have ky:=pD.out;rw [rX,List.take_length] at ky;have HAC:=qya ky;clear ky;have jy:=ze.out;have HJ:=qya rX;clear rX hj HG2;go_wp2
      go_roundg (ds.length-(i+1))
      case measure=>exact zet zw.out HG.out
      case rel=>
       refine⟨i+1,le2,lt,ce2,ct,rfl,zw.out,by first | rfl | rw [ze.out],?_⟩;rw [cj.out.1,cj.out.2];simp only [Sx.zb7,List.append_nil];rw [← HAC.out];exact nz
     ·have jh:j<fs.length:=(by simp only [qyo] at hd2;omega);have eh:decide (j<fs.length)=true:=qyl jh;have tw:Old w0 w2:=nz.fr;have xT:=zaa bG tw (fun _ _ e=>e);obtain⟨pF,tE,bJ,yq⟩:=ElsAt.nth fs xc htc j jh;have hfl:True:=trivial;have ek:(fs.take (j+1)).map Sx.Fun.body=(fs.take j).map Sx.Fun.body++[fs[j].body]:=(by rw [qyt jh,List.map_append];rfl);obtain⟨z,hz⟩ : ∃z,fs[j]=z:=⟨_,rfl⟩;rw [hz] at bJ ek;clear hz;have rp:FunAt w2 F z (.agg pF.toArray):=zb0.keep tw (fun _ _ e=>e) _ _ bJ;obtain⟨f0,f1,a0,a1,a2,a3,a4,a5,dW,yI,hfa,hx⟩:=rp;obtain⟨kd,nu,nm,ag,la,na,ca,lp,np,cp,kW⟩:=hx.parts;simp only [Value.agg.injEq,Array.mk.injEq,List.cons.injEq,and_true] at kW;obtain⟨rfl,rfl,rfl,rfl,rfl,rfl⟩:=kW;have et:=zj1 dW;subst et;obtain⟨g2,tQ,lE,-,-⟩:=xT.form (by omega);cases lE;have y0:w2.cell? ⟨g2,j*8,none⟩=some (.string f0):=(by rw [xT.cellAt (j*8) (by omega),show j*8=j*8+0 from rfl,yq 0 (by omega)];rfl);have y1:w2.cell? ⟨g2,j*8+1,none⟩=some (.string f1):=(by rw [xT.cellAt (j*8+1) (by omega),yq 1 (by omega)];rfl);have y2:w2.cell? ⟨g2,j*8+2,none⟩=some (.int .i64 kd):=(by rw [xT.cellAt (j*8+2) (by omega),yq 2 (by omega)];rfl);have y3:w2.cell? ⟨g2,j*8+3,none⟩=some (.int .i64 nu):=(by rw [xT.cellAt (j*8+3) (by omega),yq 3 (by omega)];rfl);have y4:w2.cell? ⟨g2,j*8+4,none⟩=some (.string nm):=(by rw [xT.cellAt (j*8+4) (by omega),yq 4 (by omega)];rfl);have y5:w2.cell? ⟨g2,j*8+5,none⟩=some (.string ag):=(by rw [xT.cellAt (j*8+5) (by omega),yq 5 (by omega)];rfl);have y6:w2.cell? ⟨g2,j*8+6,none⟩=some (.slice la na ca):=(by rw [xT.cellAt (j*8+6) (by omega),yq 6 (by omega)];rfl);have y7:w2.cell? ⟨g2,j*8+7,none⟩=some (.slice lp np cp):=(by rw [xT.cellAt (j*8+7) (by omega),yq 7 (by omega)];rfl);have pu:wrap64 ((j:Int)+1)=((j+1:Nat):Int):=by
       rw [IntWalk.wrap64_in _ (by unfold maxLen at hnc;omega)];omega
      have tW:=qya pu;have tH:=qya jh;have HFT:=qya ek;have oY:=(Old.refl w2).alloc (.cells #[.string f0,.string f1,.int .i64 kd,.int .i64 nu,.string nm,.string ag,.slice la na ca,.slice lp np cp] 144);have kY:=Blk.new w2 #[.string f0,.string f1,.int .i64 kd,.int .i64 nu,.string nm,.string ag,.slice la na ca,.slice lp np cp] 144;have TY:=nz.old oY;obtain⟨u0,u1,u2,u3,u4,u5,u6,u7⟩:=kY.c8;have b0:=TY.bf.c 0 (.slice le2 zn.length ce2) rfl;have sH:=TY.bf.lt;have hw2s:s+3≤w2.heap.size:=nz.bf.lt;have o2:=oY.alloc (.cells #[.int .i64 kd,.int .i64 nu,.string nm,.string ag,.slice la na ca,.slice lp np cp] 32);have T2:=nz.old o2;have kN:Blk ((w2.alloc (.cells #[.string f0,.string f1,.int .i64 kd,.int .i64 nu,.string nm,.string ag,.slice la na ca,.slice lp np cp] 144)).alloc (.cells #[.int .i64 kd,.int .i64 nu,.string nm,.string ag,.slice la na ca,.slice lp np cp] 32)) (w2.heap.size+1) #[.int .i64 kd,.int .i64 nu,.string nm,.string ag,.slice la na ca,.slice lp np cp] 32:=Blk.new' (by simp) _ _;have xX:ExsAt ((w2.alloc (.cells #[.string f0,.string f1,.int .i64 kd,.int .i64 nu,.string nm,.string ag,.slice la na ca,.slice lp np cp] 144)).alloc (.cells #[.int .i64 kd,.int .i64 nu,.string nm,.string ag,.slice la na ca,.slice lp np cp] 32)) F [z.body] [.int .i64 kd,.int .i64 nu,.string nm,.string ag,.slice la na ca,.slice lp np cp]:=by
       rw [ExsAt];exact⟨_,_,_,_,_,_,[],rfl,ExAt.keep o2 (fun _ _ e=>e) _ _ hx,by rw [ExsAt]⟩
      have vz:=zlv (m:=6) kN rfl;have b7:zn.length+1≤1000000:=by
       have:=HBN.out;rw [pD.out,qye,List.length_map,List.length_take];omega
      have bH:=ExsAt.cells1 _ _ xX;obtain⟨yo,zJ,cr⟩:=T2.oe;have uY:s+3≤((w2.alloc (.cells #[.string f0,.string f1,.int .i64 kd,.int .i64 nu,.string nm,.string ag,.slice la na ca,.slice lp np cp] 144)).alloc (.cells #[.int .i64 kd,.int .i64 nu,.string nm,.string ag,.slice la na ca,.slice lp np cp] 32)).heap.size:=(by simp;omega);have gU:=qya vz;have tD:=qya b7;have eL:=qya bH;have mF:=qya uY;clear pu jh hj tE yq dW hfl ek vz b7 bH uY
      go_wp2_with (first | (at_builtin;refine zea _ _ rfl ?_) | fail)
      refine Stop.mk ?_;refine zb8 _ rfl _ _ 29 rfl (s+3) 32 iE (.agg #[.int .i64 0,.int .i64 0,.string ⟨#[]⟩,.string ⟨#[]⟩,.slice none 0 0,.slice none 0 0]) 6 96 Tryz.underlying29 vZ.out.1.1 vZ.out.1.2.1 vZ.out.1.2.2.1 vZ.out.1.2.2.2 rfl (by decide) _ _ yo rfl zJ (.slice (some ⟨w2.heap.size+1,0,none⟩) 1 1) 1 [.int .i64 kd,.int .i64 nu,.string nm,.string ag,.slice la na ca,.slice lp np cp] 0 rfl gU.out eL.out (by unfold maxLen;have:=tD.out;omega) (by have:=tD.out;omega) mF.out ?_;intro v' w3 fp vF qZ;obtain⟨l3,c3,rfl⟩:=zad fp;have T4:=TrAt.addE T2 HS.out (by have:=HS.out;rw [this] at hF;exact hF) zJ cr xX fp vF qZ;have F3:Fr (fun k=>(Value.slice le2 zn.length ce2).ownBlock=some k) ((w2.alloc (.cells #[.string f0,.string f1,.int .i64 kd,.int .i64 nu,.string nm,.string ag,.slice la na ca,.slice lp np cp] 144)).alloc (.cells #[.int .i64 kd,.int .i64 nu,.string nm,.string ag,.slice la na ca,.slice lp np cp] 32)) w3:=(Fr.refl _ _).grown vF (fun k e _=>e);have K3:=T2.bf.keep F3 (fun e=>by have:=(zJ.lt _ e).1;omega);have qc:=K3.c 0 (.slice le2 zn.length ce2) rfl;have qg:=K3.free 0;have pu:=tW.out;go_wp2
      go_roundg (fs.length-(j+1))
      case measure=>exact zet tH.out HG2.out
      case rel=>
       refine⟨j+1,zn++[z.body],l3,c3,rfl,tH.out,by rw [HFT.out,← List.append_assoc,← pD.out],by first | rfl | rw [tW.out],?_⟩;rw [qye];exact T4
   | val dn x=>
    rw [DeclAt] at xE;obtain⟨t0,a0,a1,a2,a3,a4,a5,vr,dF,hx⟩:=xE;obtain⟨kd,nu,nm,ag,la,na,ca,lp,np,cp,kW⟩:=hx.parts;simp only [Value.agg.injEq,Array.mk.injEq,List.cons.injEq,and_true] at kW;obtain⟨rfl,rfl,rfl,rfl,rfl,rfl⟩:=kW;have pZ:=zj1 vr;subst pZ;have d0:wr.cell? ⟨g,i*14,none⟩=some (.int .i64 4):=(by rw [qk.cellAt (i*14) (by omega),show i*14=i*14+0 from rfl,qn 0 (by omega)];rfl);have d1:wr.cell? ⟨g,i*14+1,none⟩=some (.string ⟨#[]⟩):=(by rw [qk.cellAt (i*14+1) (by omega),qn 1 (by omega)];rfl);have d2:wr.cell? ⟨g,i*14+2,none⟩=some (.slice none 0 0):=(by rw [qk.cellAt (i*14+2) (by omega),qn 2 (by omega)];rfl);have d3:wr.cell? ⟨g,i*14+3,none⟩=some (.slice none 0 0):=(by rw [qk.cellAt (i*14+3) (by omega),qn 3 (by omega)];rfl);have d4:wr.cell? ⟨g,i*14+4,none⟩=some (.string t0):=(by rw [qk.cellAt (i*14+4) (by omega),qn 4 (by omega)];rfl);have d5:wr.cell? ⟨g,i*14+5,none⟩=some (.string ⟨#[]⟩):=(by rw [qk.cellAt (i*14+5) (by omega),qn 5 (by omega)];rfl);have d6:wr.cell? ⟨g,i*14+6,none⟩=some (.slice none 0 0):=(by rw [qk.cellAt (i*14+6) (by omega),qn 6 (by omega)];rfl);have d7:wr.cell? ⟨g,i*14+7,none⟩=some (.slice none 0 0):=(by rw [qk.cellAt (i*14+7) (by omega),qn 7 (by omega)];rfl);have d8:wr.cell? ⟨g,i*14+8,none⟩=some (.int .i64 kd):=(by rw [qk.cellAt (i*14+8) (by omega),qn 8 (by omega)];rfl);have d9:wr.cell? ⟨g,i*14+9,none⟩=some (.int .i64 nu):=(by rw [qk.cellAt (i*14+9) (by omega),qn 9 (by omega)];rfl);have d10:wr.cell? ⟨g,i*14+10,none⟩=some (.string nm):=(by rw [qk.cellAt (i*14+10) (by omega),qn 10 (by omega)];rfl);have d11:wr.cell? ⟨g,i*14+11,none⟩=some (.string ag):=(by rw [qk.cellAt (i*14+11) (by omega),qn 11 (by omega)];rfl);have d12:wr.cell? ⟨g,i*14+12,none⟩=some (.slice la na ca):=(by rw [qk.cellAt (i*14+12) (by omega),qn 12 (by omega)];rfl);have d13:wr.cell? ⟨g,i*14+13,none⟩=some (.slice lp np cp):=(by rw [qk.cellAt (i*14+13) (by omega),qn 13 (by omega)];rfl);have oX:=(Old.refl wr).alloc (.cells #[.int .i64 4,.string ⟨#[]⟩,.slice none 0 0,.slice none 0 0,.string t0,.string ⟨#[]⟩,.slice none 0 0,.slice none 0 0,.int .i64 kd,.int .i64 nu,.string nm,.string ag,.slice la na ca,.slice lp np cp] 84);have kX:=Blk.new wr #[.int .i64 4,.string ⟨#[]⟩,.slice none 0 0,.slice none 0 0,.string t0,.string ⟨#[]⟩,.slice none 0 0,.slice none 0 0,.int .i64 kd,.int .i64 nu,.string nm,.string ag,.slice la na ca,.slice lp np cp] 84;have TX:=hT.old oX;obtain⟨x0,x1,x2,x3,x4,x5,x6,x7,x8,x9,ym,yr,yn,yb⟩:=kX.c14;have o2:=oX.alloc (.cells #[.int .i64 kd,.int .i64 nu,.string nm,.string ag,.slice la na ca,.slice lp np cp] 32);have T2:=hT.old o2;have kN:Blk ((wr.alloc (.cells #[.int .i64 4,.string ⟨#[]⟩,.slice none 0 0,.slice none 0 0,.string t0,.string ⟨#[]⟩,.slice none 0 0,.slice none 0 0,.int .i64 kd,.int .i64 nu,.string nm,.string ag,.slice la na ca,.slice lp np cp] 84)).alloc (.cells #[.int .i64 kd,.int .i64 nu,.string nm,.string ag,.slice la na ca,.slice lp np cp] 32)) (wr.heap.size+1) #[.int .i64 kd,.int .i64 nu,.string nm,.string ag,.slice la na ca,.slice lp np cp] 32:=Blk.new' (by simp) _ _;have b0:=TX.bf.c 0 (.slice le es.length ce) rfl;have b2:=TX.bf.c 2 (.slice lt ts.length ct) rfl;obtain⟨ye,zJ,cr⟩:=T2.oe;obtain⟨yt,di,hxt3⟩:=T2.ot;have sH:=TX.bf.lt;have xX:ExsAt ((wr.alloc (.cells #[.int .i64 4,.string ⟨#[]⟩,.slice none 0 0,.slice none 0 0,.string t0,.string ⟨#[]⟩,.slice none 0 0,.slice none 0 0,.int .i64 kd,.int .i64 nu,.string nm,.string ag,.slice la na ca,.slice lp np cp] 84)).alloc (.cells #[.int .i64 kd,.int .i64 nu,.string nm,.string ag,.slice la na ca,.slice lp np cp] 32)) F [x] [.int .i64 kd,.int .i64 nu,.string nm,.string ag,.slice la na ca,.slice lp np cp]:=by
     rw [ExsAt];exact⟨_,_,_,_,_,_,[],rfl,ExAt.keep o2 (fun _ _ e=>e) _ _ hx,by rw [ExsAt]⟩
    have vz:=zlv (m:=6) kN rfl;have gU:=qya vz;have jE:((wr.alloc (.cells #[.int .i64 4,.string ⟨#[]⟩,.slice none 0 0,.slice none 0 0,.string t0,.string ⟨#[]⟩,.slice none 0 0,.slice none 0 0,.int .i64 kd,.int .i64 nu,.string nm,.string ag,.slice la na ca,.slice lp np cp] 84)).alloc (.cells #[.int .i64 kd,.int .i64 nu,.string nm,.string ag,.slice la na ca,.slice lp np cp] 32)).heap.size=wr.heap.size+1+1:=(by simp);have HZ2:=qya jE;have dh:=qya (show (es.length+1)≤1000000 by have:=gN.out.1;simp only [Sx.zb7,qxh,qxi] at this;omega);clear jy zi vG qo hm qn vr pX pK qx hi vz jE
    go_wp2_with (first | (at_builtin;refine zea _ _ rfl ?_) | fail)
    refine Stop.mk ?_;refine zb8 _ rfl _ _ 29 rfl (s+3) 32 iE (.agg #[.int .i64 0,.int .i64 0,.string ⟨#[]⟩,.string ⟨#[]⟩,.slice none 0 0,.slice none 0 0]) 6 96 Tryz.underlying29 vZ.out.1.1 vZ.out.1.2.1 vZ.out.1.2.2.1 vZ.out.1.2.2.2 rfl (by decide) _ es.length ye rfl zJ (.slice (some ⟨wr.heap.size+1,0,none⟩) 1 1) 1 [.int .i64 kd,.int .i64 nu,.string nm,.string ag,.slice la na ca,.slice lp np cp] 0 rfl gU.out (by simp [Value.oneCell']) (by unfold maxLen;have:=dh.out;omega) (by have:=dh.out;omega) (by have:=HZ2.out;omega) ?_;intro v' w3 jM vF qZ;obtain⟨l3,c3,rfl⟩:=zad jM;have T4:=TrAt.addE T2 HS.out (by have:=HS.out;rw [this] at hF;exact hF) zJ cr xX jM vF qZ;have F3:Fr (fun k=>(Value.slice le es.length ce).ownBlock=some k) ((wr.alloc (.cells #[.int .i64 4,.string ⟨#[]⟩,.slice none 0 0,.slice none 0 0,.string t0,.string ⟨#[]⟩,.slice none 0 0,.slice none 0 0,.int .i64 kd,.int .i64 nu,.string nm,.string ag,.slice la na ca,.slice lp np cp] 84)).alloc (.cells #[.int .i64 kd,.int .i64 nu,.string nm,.string ag,.slice la na ca,.slice lp np cp] 32)) w3:=(Fr.refl _ _).grown vF (fun k e _=>e);have K3:=T2.bf.keep F3 (fun e=>by have:=(zJ.lt _ e).1;omega);have q0:=K3.c 0 (.slice le es.length ce) rfl;have qg:=K3.free 0;have jy:=ze.out;go_wp2
    go_roundg (ds.length-(i+1))
    case measure=>exact zet zw.out HG.out
    case rel=>
     refine⟨i+1,l3,lt,c3,ct,rfl,zw.out,by first | rfl | rw [ze.out],?_⟩;rw [cj.out.1,cj.out.2];simp only [Sx.zb7,List.append_nil,qye,qxh,qxi,Nat.zero_add];exact T4
   | output dn x=>
    rw [DeclAt] at xE;obtain⟨t0,a0,a1,a2,a3,a4,a5,vr,dF,hx⟩:=xE;obtain⟨kd,nu,nm,ag,la,na,ca,lp,np,cp,kW⟩:=hx.parts;simp only [Value.agg.injEq,Array.mk.injEq,List.cons.injEq,and_true] at kW;obtain⟨rfl,rfl,rfl,rfl,rfl,rfl⟩:=kW;have pZ:=zj1 vr;subst pZ;have d0:wr.cell? ⟨g,i*14,none⟩=some (.int .i64 5):=(by rw [qk.cellAt (i*14) (by omega),show i*14=i*14+0 from rfl,qn 0 (by omega)];rfl);have d1:wr.cell? ⟨g,i*14+1,none⟩=some (.string ⟨#[]⟩):=(by rw [qk.cellAt (i*14+1) (by omega),qn 1 (by omega)];rfl);have d2:wr.cell? ⟨g,i*14+2,none⟩=some (.slice none 0 0):=(by rw [qk.cellAt (i*14+2) (by omega),qn 2 (by omega)];rfl);have d3:wr.cell? ⟨g,i*14+3,none⟩=some (.slice none 0 0):=(by rw [qk.cellAt (i*14+3) (by omega),qn 3 (by omega)];rfl);have d4:wr.cell? ⟨g,i*14+4,none⟩=some (.string t0):=(by rw [qk.cellAt (i*14+4) (by omega),qn 4 (by omega)];rfl);have d5:wr.cell? ⟨g,i*14+5,none⟩=some (.string ⟨#[]⟩):=(by rw [qk.cellAt (i*14+5) (by omega),qn 5 (by omega)];rfl);have d6:wr.cell? ⟨g,i*14+6,none⟩=some (.slice none 0 0):=(by rw [qk.cellAt (i*14+6) (by omega),qn 6 (by omega)];rfl);have d7:wr.cell? ⟨g,i*14+7,none⟩=some (.slice none 0 0):=(by rw [qk.cellAt (i*14+7) (by omega),qn 7 (by omega)];rfl);have d8:wr.cell? ⟨g,i*14+8,none⟩=some (.int .i64 kd):=(by rw [qk.cellAt (i*14+8) (by omega),qn 8 (by omega)];rfl);have d9:wr.cell? ⟨g,i*14+9,none⟩=some (.int .i64 nu):=(by rw [qk.cellAt (i*14+9) (by omega),qn 9 (by omega)];rfl);have d10:wr.cell? ⟨g,i*14+10,none⟩=some (.string nm):=(by rw [qk.cellAt (i*14+10) (by omega),qn 10 (by omega)];rfl);have d11:wr.cell? ⟨g,i*14+11,none⟩=some (.string ag):=(by rw [qk.cellAt (i*14+11) (by omega),qn 11 (by omega)];rfl);have d12:wr.cell? ⟨g,i*14+12,none⟩=some (.slice la na ca):=(by rw [qk.cellAt (i*14+12) (by omega),qn 12 (by omega)];rfl);have d13:wr.cell? ⟨g,i*14+13,none⟩=some (.slice lp np cp):=(by rw [qk.cellAt (i*14+13) (by omega),qn 13 (by omega)];rfl);have oX:=(Old.refl wr).alloc (.cells #[.int .i64 5,.string ⟨#[]⟩,.slice none 0 0,.slice none 0 0,.string t0,.string ⟨#[]⟩,.slice none 0 0,.slice none 0 0,.int .i64 kd,.int .i64 nu,.string nm,.string ag,.slice la na ca,.slice lp np cp] 84);have kX:=Blk.new wr #[.int .i64 5,.string ⟨#[]⟩,.slice none 0 0,.slice none 0 0,.string t0,.string ⟨#[]⟩,.slice none 0 0,.slice none 0 0,.int .i64 kd,.int .i64 nu,.string nm,.string ag,.slice la na ca,.slice lp np cp] 84;have TX:=hT.old oX;obtain⟨x0,x1,x2,x3,x4,x5,x6,x7,x8,x9,ym,yr,yn,yb⟩:=kX.c14;have o2:=oX.alloc (.cells #[.int .i64 kd,.int .i64 nu,.string nm,.string ag,.slice la na ca,.slice lp np cp] 32);have T2:=hT.old o2;have kN:Blk ((wr.alloc (.cells #[.int .i64 5,.string ⟨#[]⟩,.slice none 0 0,.slice none 0 0,.string t0,.string ⟨#[]⟩,.slice none 0 0,.slice none 0 0,.int .i64 kd,.int .i64 nu,.string nm,.string ag,.slice la na ca,.slice lp np cp] 84)).alloc (.cells #[.int .i64 kd,.int .i64 nu,.string nm,.string ag,.slice la na ca,.slice lp np cp] 32)) (wr.heap.size+1) #[.int .i64 kd,.int .i64 nu,.string nm,.string ag,.slice la na ca,.slice lp np cp] 32:=Blk.new' (by simp) _ _;have b0:=TX.bf.c 0 (.slice le es.length ce) rfl;have b2:=TX.bf.c 2 (.slice lt ts.length ct) rfl;obtain⟨ye,zJ,cr⟩:=T2.oe;obtain⟨yt,di,hxt3⟩:=T2.ot;have sH:=TX.bf.lt;have xX:ExsAt ((wr.alloc (.cells #[.int .i64 5,.string ⟨#[]⟩,.slice none 0 0,.slice none 0 0,.string t0,.string ⟨#[]⟩,.slice none 0 0,.slice none 0 0,.int .i64 kd,.int .i64 nu,.string nm,.string ag,.slice la na ca,.slice lp np cp] 84)).alloc (.cells #[.int .i64 kd,.int .i64 nu,.string nm,.string ag,.slice la na ca,.slice lp np cp] 32)) F [x] [.int .i64 kd,.int .i64 nu,.string nm,.string ag,.slice la na ca,.slice lp np cp]:=by
     rw [ExsAt];exact⟨_,_,_,_,_,_,[],rfl,ExAt.keep o2 (fun _ _ e=>e) _ _ hx,by rw [ExsAt]⟩
    have vz:=zlv (m:=6) kN rfl;have gU:=qya vz;have jE:((wr.alloc (.cells #[.int .i64 5,.string ⟨#[]⟩,.slice none 0 0,.slice none 0 0,.string t0,.string ⟨#[]⟩,.slice none 0 0,.slice none 0 0,.int .i64 kd,.int .i64 nu,.string nm,.string ag,.slice la na ca,.slice lp np cp] 84)).alloc (.cells #[.int .i64 kd,.int .i64 nu,.string nm,.string ag,.slice la na ca,.slice lp np cp] 32)).heap.size=wr.heap.size+1+1:=(by simp);have HZ2:=qya jE;have dh:=qya (show (es.length+1)≤1000000 by have:=gN.out.1;simp only [Sx.zb7,qxh,qxi] at this;omega);clear jy zi vG qo hm qn vr pX pK qx hi vz jE
    go_wp2_with (first | (at_builtin;refine zea _ _ rfl ?_) | fail)
    refine Stop.mk ?_;refine zb8 _ rfl _ _ 29 rfl (s+3) 32 iE (.agg #[.int .i64 0,.int .i64 0,.string ⟨#[]⟩,.string ⟨#[]⟩,.slice none 0 0,.slice none 0 0]) 6 96 Tryz.underlying29 vZ.out.1.1 vZ.out.1.2.1 vZ.out.1.2.2.1 vZ.out.1.2.2.2 rfl (by decide) _ es.length ye rfl zJ (.slice (some ⟨wr.heap.size+1,0,none⟩) 1 1) 1 [.int .i64 kd,.int .i64 nu,.string nm,.string ag,.slice la na ca,.slice lp np cp] 0 rfl gU.out (by simp [Value.oneCell']) (by unfold maxLen;have:=dh.out;omega) (by have:=dh.out;omega) (by have:=HZ2.out;omega) ?_;intro v' w3 jM vF qZ;obtain⟨l3,c3,rfl⟩:=zad jM;have T4:=TrAt.addE T2 HS.out (by have:=HS.out;rw [this] at hF;exact hF) zJ cr xX jM vF qZ;have F3:Fr (fun k=>(Value.slice le es.length ce).ownBlock=some k) ((wr.alloc (.cells #[.int .i64 5,.string ⟨#[]⟩,.slice none 0 0,.slice none 0 0,.string t0,.string ⟨#[]⟩,.slice none 0 0,.slice none 0 0,.int .i64 kd,.int .i64 nu,.string nm,.string ag,.slice la na ca,.slice lp np cp] 84)).alloc (.cells #[.int .i64 kd,.int .i64 nu,.string nm,.string ag,.slice la na ca,.slice lp np cp] 32)) w3:=(Fr.refl _ _).grown vF (fun k e _=>e);have K3:=T2.bf.keep F3 (fun e=>by have:=(zJ.lt _ e).1;omega);have q0:=K3.c 0 (.slice le es.length ce) rfl;have qg:=K3.free 0;have jy:=ze.out;go_wp2
    go_roundg (ds.length-(i+1))
    case measure=>exact zet zw.out HG.out
    case rel=>
     refine⟨i+1,l3,lt,c3,ct,rfl,zw.out,by first | rfl | rw [ze.out],?_⟩;rw [cj.out.1,cj.out.2];simp only [Sx.zb7,List.append_nil,qye,qxh,qxi,Nat.zero_add];exact T4
theorem zsf(d:Sx.Decl)(F:Nat→Prop)(v:Value)(W:World)(hs:zge d)(h:DeclAt W F d v)(hg:Gl W) :
  Calls Tryz.prog 77 #[v] W fun e W'=>e=.returned (.bool (zl4 d))∧Old W W':=by
 cases d with
 | data n vs cs=>
  rw [DeclAt] at h;obtain⟨t0,vv,cv0,rfl,hd⟩:=h;obtain⟨s1,lv,nv,cv,lc,nc,cc,hv⟩:=hd.parts;simp only [Value.agg.injEq,Array.mk.injEq,List.cons.injEq,and_true,Value.string.injEq] at hv;obtain⟨rfl,rfl,rfl⟩:=hv;exact zpo t0 lv nv cv lc nc cc _ W (fun W' o=>zsg n vs cs F _ W' hs.1 hs.2.1 hs.2.2 (zff.keep o (fun _ _ e=>e) _ _ hd) (hg.old o))
 | input n t=>
  rw [DeclAt] at h;obtain⟨t0,a0,a1,rfl,hn,hx⟩:=h;obtain⟨nm,la,na,ca,kW⟩:=hx.parts;simp only [Value.agg.injEq,Array.mk.injEq,List.cons.injEq,and_true] at kW;obtain⟨rfl,rfl⟩:=kW;have qY:t0.size≤140737488355328:=by have:=hs.1;rw [← hn,← toList_data,qyv] at this;exact this
  have:=zny t0 qY nm la na ca (zl1 t) W hg (fun W' o=>zg8 t F _ W' hs.2 (hx.keep o (fun _ _ e=>e)) (hg.old o));rw [hn] at this;exact this
 | funs fs=>
  rw [DeclAt] at h;obtain⟨fv,rfl,ug⟩:=h;obtain⟨l,c,rfl⟩:=ug.parts;exact zpn l fs.length c (fs.all znx) W (fun W' o=>zxb znx W' F _ fs ((zb0.ls _ _).keep o (fun _ _ e=>e) _ _ ug) (fun q hq v kf o' hv=>zuf q F v kf (hs q hq).1 (hs q hq).2.1 (hs q hq).2.2 hv (hg.old (o.trans o'))))
 | val n x=>
  rw [DeclAt] at h;obtain⟨t0,a0,a1,a2,a3,a4,a5,rfl,hn,hx⟩:=h;obtain⟨kd,nu,nm,ag,la,na,ca,lp,np,cp,kW⟩:=hx.parts;simp only [Value.agg.injEq,Array.mk.injEq,List.cons.injEq,and_true] at kW;obtain⟨rfl,rfl,rfl,rfl,rfl,rfl⟩:=kW;have qY:t0.size≤140737488355328:=by have:=hs.1;rw [← hn,← toList_data,qyv] at this;exact this
  have:=zse t0 qY kd nu nm ag la na ca lp np cp (zha x) W hg (fun W' o=>zei x F _ W' hs.2 (hx.keep o (fun _ _ e=>e)) (hg.old o));rw [hn] at this;exact this
 | output n x=>
  rw [DeclAt] at h;obtain⟨t0,a0,a1,a2,a3,a4,a5,rfl,hn,hx⟩:=h;obtain⟨kd,nu,nm,ag,la,na,ca,lp,np,cp,kW⟩:=hx.parts;simp only [Value.agg.injEq,Array.mk.injEq,List.cons.injEq,and_true] at kW;obtain⟨rfl,rfl,rfl,rfl,rfl,rfl⟩:=kW;have qY:t0.size≤140737488355328:=by have:=hs.1;rw [← hn,← toList_data,qyv] at this;exact this
  have:=zl3 t0 qY kd nu nm ag la na ca lp np cp (zha x) W hg (fun W' o=>zei x F _ W' hs.2 (hx.keep o (fun _ _ e=>e)) (hg.old o));rw [hn] at this;exact this
def ckDs(ds:List Sx.Decl):Int:=if Sx.limV (Sx.zav ds)≠0 then Sx.limV (Sx.zav ds) else if 60<ds.length then 2 else if ds.all zl4 then 0 else 21
theorem zmg(ds:List Sx.Decl)(v:Value)(F:Nat→Prop)(w:World)(hs : ∀d∈ds,zge d)(pX:(Sx.zav ds).es.length≤1000000)(pK:(Sx.zav ds).ts.length≤1000000)(hp:G.ProgAt w F ds v)(hF : ∀k,F k→k<w.heap.size)(hg:Gl w) :
  Calls Tryz.prog 35 #[v] w fun e w'=>e=.returned (.int .i64 (ckDs ds))∧Old w w':=by
 have re : ∀W,Old w W→G.ProgAt W F ds v:=fun W o=>by
  obtain⟨sv,hv,hl⟩:=hp;exact⟨sv,hv,(zcc.ls _ _).keep o (fun _ _ e=>e) _ _ hl⟩
 have ug:=fun W o=>(re W o);obtain⟨sv,rfl,dq⟩:=hp;obtain⟨l,c,rfl⟩:=dq.parts;have HT:=qya (fun (W:World) (o:Old w W)=>zfu ds F (.agg #[.slice l ds.length c]) W (fun k hk=>qyc (hF k hk) o.size) (re W o) pX pK);have HA:=qya (fun (W:World) (o:Old w W)=>zxd zl4 W F (.slice l ds.length c) ds ((zcc.ls _ _).keep o (fun _ _ e=>e) _ _ dq) (fun q hq v kf o' hv=>zsf q F v kf (hs q hq) hv (hg.old (o.trans o'))));obtain⟨n,hn⟩ : ∃n,ds.length=n:=⟨_,rfl⟩;obtain⟨pk,dP⟩ : ∃pk,Sx.limV (Sx.zav ds)=pk:=⟨_,rfl⟩;obtain⟨b,hb⟩ : ∃b,ds.all zl4=b:=⟨_,rfl⟩;obtain⟨R,hR⟩ : ∃R,ckDs ds=R:=⟨_,rfl⟩;rw [hR];unfold ckDs at hR;rw [dP,hn,hb] at hR;rw [hn] at HT HA ⊢;rw [hb] at HA;have HLIM:=qya dP;have O1:Old w (w.alloc (.cells #[.slice l n c] 25)):=(Old.refl w).alloc _;have kP:=Blk.new w #[.slice l n c] 25;have p0:=kP.c 0 (.slice l n c) rfl;clear re ug dq hn hb dP pX pK hs
 go_enter Tryz.func35,Tryz.ntmps35
 go_wp2_with fail
 (with_reducible refine (HT.out _ O1).mono ?_)
 rintro e w2 ⟨o2,fv,F',rfl,dj,dx⟩;obtain⟨l1,c1,l2,c2,l3,c3,rfl⟩:=dj.parts;have gC:=zkr F' _ _ w2 dx dj;rw [HLIM.out] at gC;have k2:=kP.keep o2 (fun e=>e);clear dj
 go_wp2_with fail
 (with_reducible refine gC.mono ?_)
 rintro e w3 ⟨rfl,o3⟩;have k3:=k2.keep o3 (fun e=>e);have p0:=k3.c 0 (.slice l n c) rfl;have O3:=(O1.trans o2).trans o3;clear gC
 by_cases h0:pk=0
 ·subst h0;rw [if_neg (by simp)] at hR
  by_cases h1:60<n
  ·rw [if_pos h1] at hR;have g1:decide ((60:Int)<(n:Int))=true:=qyl (by omega);have g2:decide (60<n)=true:=qyl h1;have HR:=qya hR;clear hR h1;go_wp2;go_ret;exact⟨by rw [← HR.out];rfl,O3⟩
  ·rw [if_neg h1] at hR;have g1:decide ((60:Int)<(n:Int))=false:=qyk (by omega);have g2:decide (60<n)=false:=qyk h1;have HR:=qya hR;clear hR h1
   go_wp2_with fail
   (with_reducible refine (HA.out _ O3).mono ?_)
   rintro e w4 ⟨rfl,o4⟩;cases b
   ·go_wp2;go_ret;exact⟨by rw [← HR.out];rfl,O3.trans o4⟩
   ·go_wp2;go_ret;exact⟨by rw [← HR.out];rfl,O3.trans o4⟩
 ·rw [if_pos h0] at hR;subst hR;have g1:(pk != 0)=true:=by simpa using h0
  have g2:(pk==0)=false:=by simpa using h0
  clear h0;go_wp2;go_ret;exact⟨rfl,O3⟩
theorem zmc(ds:List Sx.Decl)(v:Value)(F:Nat→Prop)(w:World)(pX:(Sx.zav ds).es.length≤1000000)(pK:(Sx.zav ds).ts.length≤1000000)(hp:G.ProgAt w F ds v)(hF : ∀k,F k→k<w.heap.size) :
  Calls Tryz.prog 32 #[v] w fun e w'=>e=.returned (.int .i64 (Sx.capD 100 (Sx.zav ds)))∧Old w w':=by
 have re : ∀W,Old w W→G.ProgAt W F ds v:=fun W o=>by
  obtain⟨sv,hv,hl⟩:=hp;exact⟨sv,hv,(zcc.ls _ _).keep o (fun _ _ e=>e) _ _ hl⟩
 obtain⟨sv,rfl,dq⟩:=hp;obtain⟨l,c,rfl⟩:=dq.parts;have HT:=qya (fun (W:World) (o:Old w W)=>zfu ds F (.agg #[.slice l ds.length c]) W (fun k hk=>qyc (hF k hk) o.size) (re W o) pX pK);obtain⟨n,hn⟩ : ∃n,ds.length=n:=⟨_,rfl⟩;rw [hn] at HT ⊢;have O1:Old w (w.alloc (.cells #[.slice l n c] 25)):=(Old.refl w).alloc _;clear re dq hn pX pK
 go_enter Tryz.func32,Tryz.ntmps32
 go_wp2_with fail
 (with_reducible refine (HT.out _ O1).mono ?_)
 rintro e w2 ⟨o2,fv,F',rfl,dj,dx⟩;obtain⟨l1,c1,l2,c2,l3,c3,rfl⟩:=dj.parts;have gC:=zn4 F' _ _ w2 dx dj;clear dj
 go_wp2_with fail
 (with_reducible refine gC.mono ?_)
 rintro e w3 ⟨rfl,o3⟩;go_wp2;go_ret;exact⟨rfl,(O1.trans o2).trans o3⟩
theorem zm0(ds:List Sx.Decl)(v:Value)(F:Nat→Prop)(w:World)(pX:(Sx.zav ds).es.length≤1000000)(pK:(Sx.zav ds).ts.length≤1000000)(hp:G.ProgAt w F ds v)(hF : ∀k,F k→k<w.heap.size) :
  Calls Tryz.prog 26 #[v] w fun e w'=>e=.returned (.int .i64 (min (Sx.cnt 100 (Sx.zav ds)) 2001:Nat))∧Old w w':=by
 have re : ∀W,Old w W→G.ProgAt W F ds v:=fun W o=>by
  obtain⟨sv,hv,hl⟩:=hp;exact⟨sv,hv,(zcc.ls _ _).keep o (fun _ _ e=>e) _ _ hl⟩
 obtain⟨sv,rfl,dq⟩:=hp;obtain⟨l,c,rfl⟩:=dq.parts;have HT:=qya (fun (W:World) (o:Old w W)=>zfu ds F (.agg #[.slice l ds.length c]) W (fun k hk=>qyc (hF k hk) o.size) (re W o) pX pK);obtain⟨n,hn⟩ : ∃n,ds.length=n:=⟨_,rfl⟩;rw [hn] at HT ⊢;have O1:Old w (w.alloc (.cells #[.slice l n c] 25)):=(Old.refl w).alloc _;clear re dq hn pX pK
 go_enter Tryz.func26,Tryz.ntmps26
 go_wp2_with fail
 (with_reducible refine (HT.out _ O1).mono ?_)
 rintro e w2 ⟨o2,fv,F',rfl,dj,dx⟩;obtain⟨l1,c1,l2,c2,l3,c3,rfl⟩:=dj.parts;have gC:=zp7 F' _ _ w2 dx dj;clear dj
 go_wp2_with fail
 (with_reducible refine gC.mono ?_)
 rintro e w3 ⟨rfl,o3⟩;go_wp2;go_ret;exact⟨rfl,(O1.trans o2).trans o3⟩
mutual
theorem zrd : ∀(p:Sx.Pa),Sx.zdv 140737488355328 p→zgx p
 | .mk k s a,h=>by
  rw [Sx.zdv] at h;rw [zgx];exact⟨h.1,zf0 a h.2⟩
theorem zf0 : ∀(l:List Sx.Pa),Sx.zc1 140737488355328 l→zc8 l
 | [],_=>by rw [zc8];trivial
 | p::r,h=>by
  rw [Sx.zc1] at h;rw [zc8];exact⟨zrd p h.1,zf0 r h.2⟩
end
mutual
theorem zkc : ∀(p:Sx.Ty),Sx.ze0 140737488355328 p→zfz p
 | .mk s a,h=>by
  rw [Sx.ze0] at h;rw [zfz];exact⟨h.1,zfy a h.2⟩
theorem zfy : ∀(l:List Sx.Ty),Sx.zeo 140737488355328 l→zd1 l
 | [],_=>by rw [zd1];trivial
 | p::r,h=>by
  rw [Sx.zeo] at h;rw [zd1];exact⟨zkc p h.1,zfy r h.2⟩
end
mutual
theorem zee : ∀(p:Sx.Ex),Sx.zcm 140737488355328 p→zci p
 | .mk k u s g a p,h=>by
  rw [Sx.zcm] at h;rw [zci];exact⟨h.1,h.2.1,zin a h.2.2.1,zf0 p h.2.2.2.1,h.2.2.2.2⟩
theorem zin : ∀(l:List Sx.Ex),Sx.zf1 140737488355328 l→zdm l
 | [],_=>by rw [zdm];trivial
 | p::r,h=>by
  rw [Sx.zf1] at h;rw [zdm];exact⟨zee p h.1,zin r h.2⟩
end
theorem zm3(d:Sx.Decl)(h:Sx.ztk 140737488355328 d):zge d:=by
 cases d with
 | data n vs cs=>exact⟨h.1,h.2.1,fun c hc=>⟨(h.2.2 c hc).1,zfy _ (h.2.2 c hc).2⟩⟩
 | input n t=>exact⟨h.1,zkc _ h.2⟩
 | funs fs=>exact fun f hf=>⟨(h f hf).1,(h f hf).2.1,zee _ (h f hf).2.2⟩
 | val n e=>exact⟨h.1,zee _ h.2⟩
 | output n e=>exact⟨h.1,zee _ h.2⟩
theorem zpz(l:List UInt8):Sx.Few 140737488355328 (Lx.upto l 20000).toks:=by
 unfold Lx.upto;split
 ·exact⟨fun t ht=>absurd ht (List.not_mem_nil),qyi _⟩
 ·rename_i h;cases hs:Lx.scan l 0 with
  | err p e=>exact⟨fun t ht=>absurd ht (List.not_mem_nil),qyi _⟩
  | ok ts cs=>
   have h1:=Lx.zgy hs;have h2:=Lx.zm5 _ l 0 ts cs (qyb _) hs;refine⟨fun t ht => ?_,by show ts.length≤_;omega⟩;have h3:t.text.length+1≤(ts.map fun t=>t.text.length+1).sum:=le_sum (List.mem_map.2 ⟨t,ht,rfl⟩);omega
where
 le_sum : ∀ {l:List Nat} {x:Nat},x∈l→x≤l.sum
  | a::r,x,h=>by
   rw [List.sum_cons];rcases List.mem_cons.1 h with rfl | h
   ·omega
   ·have:=le_sum h;omega
theorem zmv : ∀(ds:List Sx.Decl),(Sx.zav ds).es.length≤(ds.map Sx.wtD).sum∧(Sx.zav ds).ts.length≤(ds.map Sx.wtD).sum
 | []=>⟨qyb _,qyb _⟩
 | d::r=>by
  obtain⟨h1,h2⟩:=zmv r;have e1:(Sx.zav (d::r)).es=(Sx.zb7 d).es++(Sx.zav r).es:=rfl;have e2:(Sx.zav (d::r)).ts=(Sx.zb7 d).ts++(Sx.zav r).ts:=rfl;have h3:(Sx.zb7 d).es.length≤Sx.wtD d∧(Sx.zb7 d).ts.length≤Sx.wtD d:=by
   cases d with
   | data n vs cs=>exact⟨qyi _,by show (cs.flatMap Sx.Con.args).length≤(cs.map fun c=>c.args.length).sum;rw [List.length_flatMap];exact qyb _⟩
   | input n t=>exact⟨qyi _,qyb _⟩
   | funs fs=>exact⟨by show (fs.map Sx.Fun.body).length≤fs.length;simp,qyi _⟩
   | val n e=>exact⟨qyb _,qyi _⟩
   | output n e=>exact⟨qyb _,qyi _⟩
  rw [e1,e2,List.map_cons,List.sum_cons,qye,qye];omega
theorem ztr{l:List UInt8}{ds:List Sx.Decl}{r:List Lx.Tok}(h:Sx.pProg (Lx.upto l 20000).toks=.ok ds r):(∀d∈ds,zge d)∧(Sx.zav ds).es.length≤1000000∧(Sx.zav ds).ts.length≤1000000:=by
 have hf:=Sx.zkx (N:=140737488355328) (by decide) (Lx.upto l 20000).toks.length (Lx.upto l 20000).toks (zpz l);have h':Sx.decls (Lx.upto l 20000).toks.length (Lx.upto l 20000).toks=.ok ds r:=h;rw [h'] at hf;obtain⟨h1,h2,h3,h4⟩:=hf;have hc:=zlb l;obtain⟨g1,g2⟩:=zmv ds;exact⟨fun d hd=>zm3 d (h3 d hd),by omega,by omega⟩
theorem zct(t:ByteArray)(ht:t.size≤140737488355328)(w:World)(hg:Gl w)(M0:Except (Int×Int) Sx.Ex)(HM:Hid (M0=Sx.readW ckE t.size (Lx.upto t.data.toList 20000) Sx.zcb)) :
  Calls Tryz.prog 14 #[.string t] w (zfs ExAt (.agg #[.int .i64 0,.int .i64 0,.string ⟨#[]⟩,.string ⟨#[]⟩,.slice none 0 0,.slice none 0 0]) w M0):=
 zlu t ht w hg ckE (fun x ⟨r,hr⟩ v F W hx hF hgW=>by
  have hf:=Sx.zkw (N:=140737488355328) (by decide) _ (zpz t.data.toList);rw [hr] at hf;exact zk2 x v F W (zee x hf.2.2.1) hx hF hgW) M0 HM
theorem zng(t:ByteArray)(ht:t.size≤140737488355328)(w:World)(hg:Gl w)(M0:Except (Int×Int) (List Sx.Decl))(HM:Hid (M0=Sx.readW ckDs t.size (Lx.upto t.data.toList 20000) Sx.pProg)) :
  Calls Tryz.prog 11 #[.string t] w (zfs G.ProgAt (.agg #[.slice none 0 0]) w M0):=
 zt3 t ht w hg ckDs (fun x ⟨r,hr⟩ v F W hx hF hgW=>by
  obtain⟨h1,h2,h3⟩:=ztr hr;exact zmg x v F W h1 h2 h3 hx hF hgW) M0 HM
def zb4(L:List RT):List Value:=L.flatMap fun x=>[.int .i64 x.k,.int .i64 x.n,.string x.s,.int .i64 x.a]
theorem zgf(L:List RT)(x:RT):zb4 (L++[x])=zb4 L++[.int .i64 x.k,.int .i64 x.n,.string x.s,.int .i64 x.a]:=by simp [zb4]
def WrV(w:World)(base R:Nat)(L:List RT)(v:Value):Prop:=base≤R∧base≤w.heap.size∧Blk w R #[v] 160∧w.ownsRow base 59 4 v L.length (zb4 L)∧v.ownBlock≠some R
def Wrote(w:World)(v:Value)(base R:Nat)(L:List RT)(w':World):Prop:=∃v',WrV w' base R L v'∧Fr (fun k=>k=R∨v.ownBlock=some k) w w'∧∀k,v'.ownBlock=some k→v.ownBlock=some k∨w.heap.size≤k
theorem WrV.old{w w':World}{base R:Nat}{L:List RT}{v:Value}(h:WrV w base R L v)(hf:Old w w'):WrV w' base R L v:=
 ⟨h.1,qyu h.2.1 hf.size,h.2.2.1.keep hf (fun e=>e),zaa h.2.2.2.1 hf (fun _ _ e=>e),h.2.2.2.2⟩
theorem WrV.le{w:World}{base R:Nat}{L:List RT}{v:Value}(h:WrV w base R L v):base≤w.heap.size:=h.2.1
theorem WrV.lt{w:World}{base R:Nat}{L:List RT}{v:Value}(h:WrV w base R L v):R<w.heap.size:=h.2.2.1.lt
theorem WrV.own{w:World}{base R:Nat}{L:List RT}{v:Value}(h:WrV w base R L v) : ∀k,v.ownBlock=some k→base≤k∧k<w.heap.size:=h.2.2.2.1.lt
theorem WrV.above{w:World}{base R:Nat}{L:List RT}{v:Value}(h:WrV w base R L v) : ∀k,k=R∨v.ownBlock=some k→base≤k:=fun k e=>e.elim (fun e=>e▸h.1) (fun e=>(h.own k e).1)
theorem Wrote.of{w:World}{base R:Nat}{L:List RT}{v:Value}(h:WrV w base R L v):Wrote w v base R L w:=⟨v,h,Fr.refl _ _,fun _ e=>.inl e⟩
theorem Wrote.fr{w w':World}{base R:Nat}{L:List RT}{v:Value}(h:Wrote w v base R L w'):Fr (fun k=>k=R∨v.ownBlock=some k) w w':=h.choose_spec.2.1
theorem Wrote.more{w w' w2:World}{base R:Nat}{L:List RT}{v v':Value}(hf:Fr (fun k=>k=R∨v.ownBlock=some k) w w')(ho : ∀k,v'.ownBlock=some k→v.ownBlock=some k∨w.heap.size≤k)(h2:Wrote w' v' base R L w2):Wrote w v base R L w2:=by
 obtain⟨v2,h3,f3,o3⟩:=h2;refine⟨v2,h3,hf.trans' f3 (fun i hi e=>e.imp id (fun e=>(ho i e).resolve_right (by omega))),fun k hk => ?_⟩;rcases o3 k hk with e | e
 ·exact ho k e
 ·exact .inr (qyu hf.size e)
theorem Wrote.fore{w w' w2:World}{base R:Nat}{L:List RT}{v:Value}(hf:Old w w')(h2:Wrote w' v base R L w2):Wrote w v base R L w2:=Wrote.more (Fr.old hf) (fun _ e=>.inl e) h2
theorem zt7{j r g:Nat}(h:j<r)(hg:g=r-j):r-(j+1)<g:=by omega
theorem num_w(n:Int)(h0:0≤n)(h1:n≤9223372036854775807)(w:World)(base R:Nat)(L:List RT)(v:Value)(hg:Gl w)(hW:WrV w base R L v)(hl:L.length≤1000000) :
  Calls Tryz.prog 136 #[.pointer (some ⟨R,0,none⟩),.int .i64 n] w fun e w'=>e=.returned (.tuple #[])∧Wrote w v base R (L++[⟨1,n,⟨(Lx.zbp n).toArray⟩,0⟩]) w':=by
 obtain⟨hbR,mq,hR,qz,hvo⟩:=hW;obtain⟨la,qt,rfl⟩:=zad qz;have uF:=hR.drew;have vk:=qz.drew;have gw:Old w w.drew:=(Old.refl w).drew;have uc:=hg.old gw;have r0:=uF.c 0 (.slice la L.length qt) rfl;obtain⟨i0,hi,qw,j5,jE⟩:=info_parts zjb;have xR:=qz.1;have HH:=qya (And.intro uF (And.intro vk gw));clear hR qz uF vk gw
 go_enter Tryz.func136,Tryz.ntmps136
 go_wp2_with fail
 refine wp_region_held_drew (S:=fun _=>True) (by kernel_rfl) trivial (fun _ => ?_);refine wpAnyH_take (i:=0) (v := ?_) rfl (by kernel_rfl) (by kernel_rfl) (by kernel_rfl) (fun _ _ _ h=>h) (Or.inl ⟨by rfl,?y0⟩) trivial ?r0
 case y0=>(intro w9 jA;go_simp;try with_reducible rfl)
 case' r0=>try simp only [Act.put,qxa,qxb,qxc,qxd,qxe,qxf]
 refine wpAnyH_take (i:=1) (v := ?_) rfl (by kernel_rfl) (by kernel_rfl) (by kernel_rfl) (fun _ _ _ h=>h) (Or.inl ⟨by rfl,?y1⟩) trivial ?r1
 case y1=>(intro w9 jA;go_simp;try with_reducible rfl)
 case' r1=>try simp only [Act.put,qxa,qxb,qxc,qxd,qxe,qxf]
 refine wpAnyH_take (i:=2) (v := ?_) rfl (by kernel_rfl) (by kernel_rfl) (by kernel_rfl) (fun _ _ _ h=>h) (Or.inl ⟨by rfl,?y2⟩) trivial ?r2
 case y2=>(intro w9 jA;go_simp;try with_reducible rfl)
 case' r2=>try simp only [Act.put,qxa,qxb,qxc,qxd,qxe,qxf]
 refine wpAnyH_take (i:=3) (v := ?_) rfl (by kernel_rfl) (by kernel_rfl) (by kernel_rfl) (fun _ _ _ h=>h) (Or.inl ⟨by rfl,?y3⟩) trivial ?r3
 case y3=>(intro w9 jA;go_simp;try with_reducible rfl)
 case' r3=>try simp only [Act.put,qxa,qxb,qxc,qxd,qxe,qxf]
 refine wpAnyH_take (i:=5) (v := ?_) rfl (by kernel_rfl) (by kernel_rfl) (by kernel_rfl) (fun _ _ _ h=>h) (Or.inl ⟨by rfl,?y5⟩) trivial ?r5
 case y5=>(intro w9 jA;go_simp;try with_reducible rfl)
 case' r5=>try simp only [Act.put,qxa,qxb,qxc,qxd,qxe,qxf]
 refine wpAnyH_take (i:=6) (v := ?_) rfl (by kernel_rfl) (by kernel_rfl) (by kernel_rfl) (fun _ _ _ h=>h) (Or.inl ⟨by rfl,?y6⟩) trivial ?r6
 case y6=>(intro w9 jA;go_simp;try with_reducible rfl)
 case' r6=>try simp only [Act.put,qxa,qxb,qxc,qxd,qxe,qxf]
 refine wpAnyH_ready (rs:=[4,7]) (by kernel_rfl) (by simp) ?_;refine AllReadyH.cons rfl (fun K hK => ?wl) (AllReadyH.cons rfl (fun K hK => ?wc) AllReadyH.nil)
 case' wl=>
  go_simp
  refine hK.out _ _ trivial (fun _ => ?_);clear hK K
  try simp only [Act.put,qxa,qxb,qxc,qxd,qxe,qxf]
  refine wpAnyH_ready (rs:=[7]) (by kernel_rfl) (by simp) ?_;refine AllReadyH.cons rfl (fun K hK => ?_) AllReadyH.nil
  go_simp
  refine (zds n (by omega) h1 _ uc).mono ?_;rintro e w6 ⟨rfl,fQ⟩;have xC:=HH.out.1.keep fQ (fun e=>e);have r6:=xC.c 0 (.slice la L.length qt) rfl;have vQ:=xC.alloc (.cells #[.int .i64 1,.int .i64 n,.string ⟨(Lx.zbp n).toArray⟩,.int .i64 0] 59);have ra:=vQ.c 0 (.slice la L.length qt) rfl;refine hK.out _ _ trivial (fun _ => ?_);clear hK K
  try simp only [Act.put,qxa,qxb,qxc,qxd,qxe,qxf]
  refine wpAnyH_take (i:=8) (v := ?_) rfl (by kernel_rfl) (by kernel_rfl) (by kernel_rfl) (fun _ _ _ h=>h) (Or.inl ⟨by rfl,?y8⟩) trivial ?r8
  case y8=>(intro w9 jA;go_simp;try with_reducible rfl)
  case' r8=>try simp only [Act.put,qxa,qxb,qxc,qxd,qxe,qxf]
  refine wpAnyH_ready (rs:=[9]) (by kernel_rfl) (by simp) ?_;refine AllReadyH.cons rfl (fun K hK => ?_) AllReadyH.nil
  go_simp
  refine hK.out _ _ trivial (fun _ => ?_);clear hK K
  try simp only [Act.put,qxa,qxb,qxc,qxd,qxe,qxf]
 case' wc=>
  go_simp
  refine (zds n (by omega) h1 _ uc).mono ?_;rintro e w6 ⟨rfl,fQ⟩;have xC:=HH.out.1.keep fQ (fun e=>e);have r6:=xC.c 0 (.slice la L.length qt) rfl;have vQ:=xC.alloc (.cells #[.int .i64 1,.int .i64 n,.string ⟨(Lx.zbp n).toArray⟩,.int .i64 0] 59);have ra:=vQ.c 0 (.slice la L.length qt) rfl;refine hK.out _ _ trivial (fun _ => ?_);clear hK K
  try simp only [Act.put,qxa,qxb,qxc,qxd,qxe,qxf]
  refine wpAnyH_take (i:=8) (v := ?_) rfl (by kernel_rfl) (by kernel_rfl) (by kernel_rfl) (fun _ _ _ h=>h) (Or.inl ⟨by rfl,?y8⟩) trivial ?r8
  case y8=>(intro w9 jA;go_simp;try with_reducible rfl)
  case' r8=>try simp only [Act.put,qxa,qxb,qxc,qxd,qxe,qxf]
  refine wpAnyH_ready (rs:=[4,9]) (by kernel_rfl) (by simp) ?_;refine AllReadyH.cons rfl (fun K hK => ?wa) (AllReadyH.cons rfl (fun K hK => ?wb) AllReadyH.nil)
 case' wa=>
  go_simp
  refine hK.out _ _ trivial (fun _ => ?_);clear hK K
  try simp only [Act.put,qxa,qxb,qxc,qxd,qxe,qxf]
  refine wpAnyH_ready (rs:=[9]) (by kernel_rfl) (by simp) ?_;refine AllReadyH.cons rfl (fun K hK => ?_) AllReadyH.nil
  go_simp
  refine hK.out _ _ trivial (fun _ => ?_);clear hK K
  try simp only [Act.put,qxa,qxb,qxc,qxd,qxe,qxf]
 case' wb=>
  go_simp
  refine hK.out _ _ trivial (fun _ => ?_);clear hK K
  try simp only [Act.put,qxa,qxb,qxc,qxd,qxe,qxf]
  refine wpAnyH_ready (rs:=[4]) (by kernel_rfl) (by simp) ?_;refine AllReadyH.cons rfl (fun K hK => ?_) AllReadyH.nil
  go_simp
  refine hK.out _ _ trivial (fun _ => ?_);clear hK K
  try simp only [Act.put,qxa,qxb,qxc,qxd,qxe,qxf]
 all_goals
  refine wpAnyH_ready (rs:=[10]) (by kernel_rfl) (by simp) ?_;refine AllReadyH.cons rfl (fun K hK => ?_) AllReadyH.nil;refine step_append_lies _ rfl _ _ 54 rfl base 59 i0 (.agg #[.int .i64 0,.int .i64 0,.string ⟨#[]⟩,.int .i64 0]) 4 40 Tryz.underlying54 hi qw j5 jE rfl (by decide) _ L.length _ rfl
   ((zaa HH.out.2.1 fQ (fun _ _ e=>e)).alloc _) ⟨w6.heap.size,0,none⟩ 1 1 [.int .i64 1,.int .i64 n,.string ⟨(Lx.zbp n).toArray⟩,.int .i64 0] rfl rfl
   (World.news_of_block (Blk.new w6 #[.int .i64 1,.int .i64 n,.string ⟨(Lx.zbp n).toArray⟩,.int .i64 0] 59)) (by intro u hu;simp at hu;rcases hu with rfl | rfl | rfl | rfl <;> rfl) (by decide) (by unfold maxLen;omega) (by omega)
   (by rw [qyd];have:=fQ.size;have:=HH.out.2.2.size;omega) (w6.heap.size+1) (qyd _ _) ?_
  intro g cap w7 j6 ez qZ hlt7;have yf:Blk w7 R #[.slice la L.length qt] 160:=vQ.keep ((Fr.refl (fun k=>(Value.slice la L.length qt).ownBlock=some k) _).grown ez (fun k e _=>e)) (fun e=>hvo e);have r7:=yf.c 0 (.slice la L.length qt) rfl;have e7:=yf.free 0;have F7:Fr (fun k=>(Value.slice la L.length qt).ownBlock=some k) w w7:=(Fr.old ((HH.out.2.2.trans fQ).alloc (.cells #[.int .i64 1,.int .i64 n,.string ⟨(Lx.zbp n).toArray⟩,.int .i64 0] 59))).grown ez (fun k e _=>e);have xm:g≠R:=by
   intro e;rcases qZ with h | h
   ·exact hvo (h.trans (congrArg some e))
   ·have:=xC.lt;omega
  refine hK.out _ _ trivial (fun _ => ?_);clear hK K
  try simp only [Act.put,qxa,qxb,qxc,qxd,qxe,qxf]
  refine wpAnyH_take (i:=11) (v := ?_) rfl (by kernel_rfl) (by kernel_rfl) (by kernel_rfl) (fun _ _ _ h=>h) (Or.inl ⟨by rfl,?_⟩) trivial ?_
  rotate_left 1
  ·(intro w9 jA;go_simp;try with_reducible rfl)
  try simp only [Act.put,qxa,qxb,qxc,qxd,qxe,qxf]
  refine wpAnyH_take (i:=12) (v := ?_) rfl (by kernel_rfl) (by kernel_rfl) (by kernel_rfl) (fun _ _ _ h=>h) (Or.inl ⟨by rfl,?_⟩) trivial ?_
  rotate_left 1
  ·(intro w9 jA;go_simp;try with_reducible rfl)
  try simp only [Act.put,qxa,qxb,qxc,qxd,qxe,qxf]
  refine wpAnyH_ready (rs:=[13]) (by kernel_rfl) (by simp) ?_;refine AllReadyH.cons rfl (fun K hK => ?_) AllReadyH.nil
  go_simp
  refine hK.out _ _ trivial (fun _ => ?_);clear hK K;refine wpAnyH_done (by kernel_rfl) ?_ _;have F8:Fr (fun k=>k=R∨(Value.slice la L.length qt).ownBlock=some k) w (w7.setCell ⟨R,0,none⟩ (.slice (some ⟨g,0,none⟩) (L.length+1) cap)):=(F7.mono (fun k _ e=>.inr e)).setCell ⟨R,0,none⟩ (fun _=>.inl rfl) _;have hsz7:w.heap.size≤w6.heap.size:=fQ.size;have W8:WrV (w7.setCell ⟨R,0,none⟩ (.slice (some ⟨g,0,none⟩) (L.length+1) cap)) base R (L++[⟨1,n,⟨(Lx.zbp n).toArray⟩,0⟩]) (.slice (some ⟨g,0,none⟩) (L.length+1) cap):=by
   refine⟨hbR,qyu mq F8.size,yf.set 0 _,?_,fun e=>xm (by cases e;rfl)⟩;rw [zgf,qye,qyh];exact zaa j6 ((Fr.refl (fun k=>k=R) w7).setCell ⟨R,0,none⟩ (fun _=>rfl) _) (fun k hk e=>xm (by cases hk;exact e))
  have HE:=qya (And.intro W8 (And.intro F8 qZ));clear W8 F8 F7 yf j6 ez HH qZ;go_wp2
  go_end0
  exact⟨rfl,_,HE.out.1,HE.out.2.1,fun k hk=>by cases hk;exact HE.out.2.2.imp id (fun h=>by have h:g=w6.heap.size+1:=h;show w.heap.size≤g;omega)⟩
abbrev tk(t:ByteArray):RT:=⟨Lx.kind t.data.toList,0,t,0⟩
theorem put_w(T:List ByteArray)(hT : ∀t∈T,t.size≤140737488355328)(m:Nat)(hm:m=T.length)(cs:Array Value)(qn:cs=(T.map Value.string).toArray)(w:World)(base R:Nat)(L:List RT)(v0:Value)(hg:Gl w)(hB:6≤base)(cQ:WrV w base R L v0)(hl:L.length+T.length≤1000000) :
  Calls Tryz.prog 137 #[.pointer (some ⟨R,0,none⟩),.slice (some ⟨w.heap.size,0,none⟩) m m] (w.alloc (.cells cs 9)) fun e w'=>e=.returned (.tuple #[])∧Wrote w v0 base R (L++T.map tk) w':=by
 subst hm qn;have qJ:=cQ.2.2.1.lt;have hvl:=cQ.2.2.2.1.lt;have hbw0:=cQ.2.1;have hbR0:=cQ.1;obtain⟨w0,qr⟩ : ∃w0,w.alloc (.cells (T.map Value.string).toArray 9)=w0:=⟨_,rfl⟩;have kT0:Blk w0 w.heap.size (T.map Value.string).toArray 9:=by rw [← qr];exact Blk.new _ _ _
 have O0:Old w w0:=by rw [← qr];exact (Old.refl w).alloc _
 have xl:WrV w0 base R L v0:=⟨cQ.1,qyu cQ.2.1 O0.size,cQ.2.2.1.keep O0 (fun e=>e),zaa cQ.2.2.2.1 O0 (fun _ _ e=>e),cQ.2.2.2.2⟩;have hsz0:w0.heap.size=w.heap.size+1:=by rw [← qr];exact qyd _ _
 rw [qr];clear qr;have hTl:T.length≤1000000:=by omega
 have H0:=qya (And.intro xl (And.intro O0 kT0));clear xl O0 cQ kT0
 go_enter Tryz.func137,Tryz.ntmps137
 go_wp2_with fail
 go_loopg [8] T.length (fun g x wr=>∃(i:Nat) (vi:Value),g=T.length-i∧i≤T.length∧x=.int .i64 i∧WrV wr base R (L++(T.take i).map tk) vi∧vi.ownBlock≠some w.heap.size∧Blk wr w.heap.size (T.map Value.string).toArray 9∧Fr (fun k=>k=R∨v0.ownBlock=some k) w wr∧∀k,vi.ownBlock=some k→v0.ownBlock=some k∨w.heap.size≤k)
 case atStart=>exact⟨0,v0,rfl,qyi _,rfl,by simpa using H0.out.1,fun e=>by have:=(hvl _ e).2;omega,H0.out.2.2,Fr.old H0.out.2.1,fun _ e=>.inl e⟩
 case round=>
  obtain⟨i,vi,bI,hi,rfl,⟨hbR,mq,hR,qz,hvo⟩,hvT,hkT,hF,rf⟩:=hrel;have HG:=qya bI;clear bI;obtain⟨Li,hLi⟩ : ∃Li,L++(T.take i).map tk=Li:=⟨_,rfl⟩;have hLl:Li.length≤1000000:=by rw [← hLi];simp;omega
  rw [hLi] at qz;have HLI:=qya hLi;clear hLi
  by_cases qx:i<T.length
  ·have hd:decide ((i:Int)<(T.length:Int))=true:=qyl (Int.ofNat_lt.2 qx);have hli:(i:Int)<(T.length:Int):=Int.ofNat_lt.2 qx;obtain⟨t,ht⟩ : ∃t,T[i]? = some t:=⟨_,List.getElem?_eq_getElem qx⟩;have jS:t.size≤140737488355328:=hT t (List.mem_of_getElem? ht);have ct:=hkT.cell (i:=i) (v:=.string t) (by rw [List.getElem?_toArray,List.getElem?_map,ht];rfl);have dV:Hid (wrap64 ((i:Int)+1)=((i+1:Nat):Int)):=qya (by rw [IntWalk.wrap64_in _ (by omega)];omega);obtain⟨la,qt,rfl⟩:=zad qz;have uF:=hR.drew;have vk:=qz.drew;have gw:Old wr wr.drew:=(Old.refl wr).drew;have uc:Gl wr.drew:=(hg.keep hF (fun k e=>e.elim (fun e=>by omega) (fun e=>by have:=(hvl k e).1;omega))).old gw;have r0:=uF.c 0 (.slice la Li.length qt) rfl;obtain⟨i0,hi0,qw,j5,jE⟩:=info_parts zjb;have xR:=qz.1;have HI:=qya (And.intro qx (And.intro hi ht));have HK:=qya (And.intro hkT (And.intro hvT (And.intro hF rf)));have HH:=qya (And.intro uF (And.intro vk gw));clear hR qz uF vk gw hkT hvT hF rf qx hi ht
   go_wp2_with fail
   refine wp_region_held_drew (S:=fun _=>True) (by kernel_rfl) trivial (fun _ => ?_);refine wpAnyH_take (i:=0) (v := ?_) rfl (by kernel_rfl) (by kernel_rfl) (by kernel_rfl) (fun _ _ _ h=>h) (Or.inl ⟨by rfl,?y0⟩) trivial ?r0
   case y0=>(intro w9 jA;go_simp;try with_reducible rfl)
   case' r0=>try simp only [Act.put,qxa,qxb,qxc,qxd,qxe,qxf]
   refine wpAnyH_take (i:=1) (v := ?_) rfl (by kernel_rfl) (by kernel_rfl) (by kernel_rfl) (fun _ _ _ h=>h) (Or.inl ⟨by rfl,?y1⟩) trivial ?r1
   case y1=>(intro w9 jA;go_simp;try with_reducible rfl)
   case' r1=>try simp only [Act.put,qxa,qxb,qxc,qxd,qxe,qxf]
   refine wpAnyH_take (i:=2) (v := ?_) rfl (by kernel_rfl) (by kernel_rfl) (by kernel_rfl) (fun _ _ _ h=>h) (Or.inl ⟨by rfl,?y2⟩) trivial ?r2
   case y2=>(intro w9 jA;go_simp;try with_reducible rfl)
   case' r2=>try simp only [Act.put,qxa,qxb,qxc,qxd,qxe,qxf]
   refine wpAnyH_take (i:=3) (v := ?_) rfl (by kernel_rfl) (by kernel_rfl) (by kernel_rfl) (fun _ _ _ h=>h) (Or.inl ⟨by rfl,?y3⟩) trivial ?r3
   case y3=>(intro w9 jA;go_simp;try with_reducible rfl)
   case' r3=>try simp only [Act.put,qxa,qxb,qxc,qxd,qxe,qxf]
   refine wpAnyH_take (i:=5) (v := ?_) rfl (by kernel_rfl) (by kernel_rfl) (by kernel_rfl) (fun _ _ _ h=>h) (Or.inl ⟨by rfl,?y5⟩) trivial ?r5
   case y5=>(intro w9 jA;go_simp;try with_reducible rfl)
   case' r5=>try simp only [Act.put,qxa,qxb,qxc,qxd,qxe,qxf]
   refine wpAnyH_take (i:=7) (v := ?_) rfl (by kernel_rfl) (by kernel_rfl) (by kernel_rfl) (fun _ _ _ h=>h) (Or.inl ⟨by rfl,?y7⟩) trivial ?r7
   case y7=>(intro w9 jA;go_simp;try with_reducible rfl)
   case' r7=>try simp only [Act.put,qxa,qxb,qxc,qxd,qxe,qxf]
   refine wpAnyH_ready (rs:=[4,6]) (by kernel_rfl) (by simp) ?_;refine AllReadyH.cons rfl (fun K hK => ?wl) (AllReadyH.cons rfl (fun K hK => ?wc) AllReadyH.nil)
   case' wl=>
    go_simp
    refine hK.out _ _ trivial (fun _ => ?_);clear hK K
    try simp only [Act.put,qxa,qxb,qxc,qxd,qxe,qxf]
    refine wpAnyH_ready (rs:=[6]) (by kernel_rfl) (by simp) ?_;refine AllReadyH.cons rfl (fun K hK => ?_) AllReadyH.nil
    go_simp
    refine (zgl t jS _ uc).mono ?_;rintro e w6 ⟨rfl,fQ⟩;have xC:=HH.out.1.keep fQ (fun e=>e);have r6:=xC.c 0 (.slice la Li.length qt) rfl;have vQ:=xC.alloc (.cells #[.int .i64 (Lx.kind t.data.toList),.int .i64 0,.string t,.int .i64 0] 59);have ra:=vQ.c 0 (.slice la Li.length qt) rfl;refine hK.out _ _ trivial (fun _ => ?_);clear hK K
    try simp only [Act.put,qxa,qxb,qxc,qxd,qxe,qxf]
    refine wpAnyH_take (i:=8) (v := ?_) rfl (by kernel_rfl) (by kernel_rfl) (by kernel_rfl) (fun _ _ _ h=>h) (Or.inl ⟨by rfl,?y8⟩) trivial ?r8
    case y8=>(intro w9 jA;go_simp;try with_reducible rfl)
    case' r8=>try simp only [Act.put,qxa,qxb,qxc,qxd,qxe,qxf]
    refine wpAnyH_ready (rs:=[9]) (by kernel_rfl) (by simp) ?_;refine AllReadyH.cons rfl (fun K hK => ?_) AllReadyH.nil
    go_simp
    refine hK.out _ _ trivial (fun _ => ?_);clear hK K
    try simp only [Act.put,qxa,qxb,qxc,qxd,qxe,qxf]
   case' wc=>
    go_simp
    refine (zgl t jS _ uc).mono ?_;rintro e w6 ⟨rfl,fQ⟩;have xC:=HH.out.1.keep fQ (fun e=>e);have r6:=xC.c 0 (.slice la Li.length qt) rfl;have vQ:=xC.alloc (.cells #[.int .i64 (Lx.kind t.data.toList),.int .i64 0,.string t,.int .i64 0] 59);have ra:=vQ.c 0 (.slice la Li.length qt) rfl;refine hK.out _ _ trivial (fun _ => ?_);clear hK K
    try simp only [Act.put,qxa,qxb,qxc,qxd,qxe,qxf]
    refine wpAnyH_take (i:=8) (v := ?_) rfl (by kernel_rfl) (by kernel_rfl) (by kernel_rfl) (fun _ _ _ h=>h) (Or.inl ⟨by rfl,?y8⟩) trivial ?r8
    case y8=>(intro w9 jA;go_simp;try with_reducible rfl)
    case' r8=>try simp only [Act.put,qxa,qxb,qxc,qxd,qxe,qxf]
    refine wpAnyH_ready (rs:=[4,9]) (by kernel_rfl) (by simp) ?_;refine AllReadyH.cons rfl (fun K hK => ?wa) (AllReadyH.cons rfl (fun K hK => ?wb) AllReadyH.nil)
   case' wa=>
    go_simp
    refine hK.out _ _ trivial (fun _ => ?_);clear hK K
    try simp only [Act.put,qxa,qxb,qxc,qxd,qxe,qxf]
    refine wpAnyH_ready (rs:=[9]) (by kernel_rfl) (by simp) ?_;refine AllReadyH.cons rfl (fun K hK => ?_) AllReadyH.nil
    go_simp
    refine hK.out _ _ trivial (fun _ => ?_);clear hK K
    try simp only [Act.put,qxa,qxb,qxc,qxd,qxe,qxf]
   case' wb=>
    go_simp
    refine hK.out _ _ trivial (fun _ => ?_);clear hK K
    try simp only [Act.put,qxa,qxb,qxc,qxd,qxe,qxf]
    refine wpAnyH_ready (rs:=[4]) (by kernel_rfl) (by simp) ?_;refine AllReadyH.cons rfl (fun K hK => ?_) AllReadyH.nil
    go_simp
    refine hK.out _ _ trivial (fun _ => ?_);clear hK K
    try simp only [Act.put,qxa,qxb,qxc,qxd,qxe,qxf]
   all_goals
    refine wpAnyH_ready (rs:=[10]) (by kernel_rfl) (by simp) ?_;refine AllReadyH.cons rfl (fun K hK => ?_) AllReadyH.nil;refine step_append_lies _ rfl _ _ 54 rfl base 59 i0 (.agg #[.int .i64 0,.int .i64 0,.string ⟨#[]⟩,.int .i64 0]) 4 40 Tryz.underlying54 hi0 qw j5 jE rfl (by decide) _ Li.length _ rfl
     ((zaa HH.out.2.1 fQ (fun _ _ e=>e)).alloc _) ⟨w6.heap.size,0,none⟩ 1 1 [.int .i64 (Lx.kind t.data.toList),.int .i64 0,.string t,.int .i64 0] rfl rfl
     (World.news_of_block (Blk.new w6 #[.int .i64 (Lx.kind t.data.toList),.int .i64 0,.string t,.int .i64 0] 59)) (by intro u hu;simp at hu;rcases hu with rfl | rfl | rfl | rfl <;> rfl) (by decide) (by unfold maxLen;omega) (by omega)
     (by rw [qyd];have:=fQ.size;have:=HH.out.2.2.size;omega) (w6.heap.size+1) (qyd _ _) ?_
    intro g cap w7 j6 ez qZ hlt7;have yf:Blk w7 R #[.slice la Li.length qt] 160:=vQ.keep ((Fr.refl (fun k=>(Value.slice la Li.length qt).ownBlock=some k) _).grown ez (fun k e _=>e)) (fun e=>hvo e);have r7:=yf.c 0 (.slice la Li.length qt) rfl;have e7:=yf.free 0;have F7:Fr (fun k=>(Value.slice la Li.length qt).ownBlock=some k) wr w7:=(Fr.old ((HH.out.2.2.trans fQ).alloc (.cells #[.int .i64 (Lx.kind t.data.toList),.int .i64 0,.string t,.int .i64 0] 59))).grown ez (fun k e _=>e);have xm:g≠R:=by
     intro e;rcases qZ with h | h
     ·exact hvo (h.trans (congrArg some e))
     ·have:=xC.lt;omega
    refine hK.out _ _ trivial (fun _ => ?_);clear hK K
    try simp only [Act.put,qxa,qxb,qxc,qxd,qxe,qxf]
    refine wpAnyH_take (i:=11) (v := ?_) rfl (by kernel_rfl) (by kernel_rfl) (by kernel_rfl) (fun _ _ _ h=>h) (Or.inl ⟨by rfl,?_⟩) trivial ?_
    rotate_left 1
    ·(intro w9 jA;go_simp;try with_reducible rfl)
    try simp only [Act.put,qxa,qxb,qxc,qxd,qxe,qxf]
    refine wpAnyH_take (i:=12) (v := ?_) rfl (by kernel_rfl) (by kernel_rfl) (by kernel_rfl) (fun _ _ _ h=>h) (Or.inl ⟨by rfl,?_⟩) trivial ?_
    rotate_left 1
    ·(intro w9 jA;go_simp;try with_reducible rfl)
    try simp only [Act.put,qxa,qxb,qxc,qxd,qxe,qxf]
    refine wpAnyH_ready (rs:=[13]) (by kernel_rfl) (by simp) ?_;refine AllReadyH.cons rfl (fun K hK => ?_) AllReadyH.nil
    go_simp
    refine hK.out _ _ trivial (fun _ => ?_);clear hK K;refine wpAnyH_done (by kernel_rfl) ?_ _;have F8:Fr (fun k=>k=R∨(Value.slice la Li.length qt).ownBlock=some k) wr (w7.setCell ⟨R,0,none⟩ (.slice (some ⟨g,0,none⟩) (Li.length+1) cap)):=(F7.mono (fun k _ e=>.inr e)).setCell ⟨R,0,none⟩ (fun _=>.inl rfl) _;have hsz7:wr.heap.size≤w6.heap.size:=fQ.size;have W8:WrV (w7.setCell ⟨R,0,none⟩ (.slice (some ⟨g,0,none⟩) (Li.length+1) cap)) base R (Li++[tk t]) (.slice (some ⟨g,0,none⟩) (Li.length+1) cap):=by
     refine⟨hbR,qyu mq F8.size,yf.set 0 _,?_,fun e=>xm (by cases e;rfl)⟩;rw [zgf,qye,qyh];exact zaa j6 ((Fr.refl (fun k=>k=R) w7).setCell ⟨R,0,none⟩ (fun _=>rfl) _) (fun k hk e=>xm (by cases hk;exact e))
    have HE:=qya (And.intro W8 (And.intro F8 qZ));clear W8 F8 F7 yf j6 ez qZ HH;go_wp2
    go_roundg (T.length-(i+1))
    case measure=>exact zt7 HI.out.1 HG.out
    case rel=>
     obtain⟨W8,F8,qZ⟩:=HE.out;obtain⟨kT,vT,F,vo2⟩:=HK.out;obtain⟨qx,hi,ht⟩:=HI.out;refine⟨i+1,.slice (some ⟨g,0,none⟩) (Li.length+1) cap,rfl,qx,by first | rfl | rw [dV.out],?_,?_,kT.keep F8 ?_,F.trans' F8 (fun k hk e=>e.imp id (fun e=>(vo2 k e).resolve_right (by omega))),?_⟩
     ·have hs:L++(T.take (i+1)).map tk=Li++[tk t]:=(by rw [← HLI.out,List.take_add_one,ht,List.map_append,List.append_assoc];rfl);rw [hs];exact W8
     ·intro e;cases e;rcases qZ with h | h
      ·exact vT h
      ·have h1:w.heap.size<wr.heap.size:=kT.lt;have h2:wr.heap.size≤w6.heap.size:=fQ.size;have h3:w.heap.size=w6.heap.size+1:=h;omega
     ·rintro (e | e)
      ·omega
      ·exact vT e
     ·intro k hk;cases hk;rcases qZ with h | h
      ·exact vo2 _ h
      ·have h1:g=w6.heap.size+1:=h;have h2:wr.heap.size≤w6.heap.size:=fQ.size;have h3:=F.size;right;show w.heap.size≤g;omega
  ·have hd:decide ((i:Int)<(T.length:Int))=false:=qyk (fun e=>qx (Int.ofNat_lt.1 e));have xq:decide (i<T.length)=false:=qyk qx;have hiT:i=T.length:=(by omega);have hLe:Li=L++T.map tk:=(by rw [← HLI.out,hiT,List.take_length]);have HE:=qya (And.intro (show WrV wr base R Li vi from⟨hbR,mq,hR,qz,hvo⟩) (And.intro (And.intro hF rf) hLe));clear hR qz hkT hF rf hLe hiT qx hi
   go_wp2_with fail
   go_end0
   exact⟨rfl,vi,HE.out.2.2▸HE.out.1,HE.out.2.1⟩
inductive Ti where
 | num (n:Nat)
 | var (s:ByteArray)
 | sub (a b:Ti)
 | app (a b:Ti)
 | fn (x:ByteArray) (b:Ti)
def Ti.ex:Ti→Sx.Ex
 | .num n=>.mk 1 n [] [] [] []
 | .var s=>.mk 2 0 s.data.toList [] [] []
 | .sub a b=>.mk 9 0 [45] [] [a.ex,b.ex] []
 | .app a b=>.mk 4 0 [] [] [a.ex,b.ex] []
 | .fn x b=>.mk 5 0 [] x.data.toList [b.ex] []
def Ti.lv:Ti→Int
 | .num _=>5
 | .var _=>5
 | .sub _ _=>2
 | .app _ _=>4
 | .fn _ _=>0
def enc(c:Bool)(l:List RT):List RT:=if c then [tk ⟨#[40]⟩]++l++[tk ⟨#[41]⟩] else l
def Ti.wT:Ti→List RT
 | .num n=>[⟨1,n,⟨(Lx.zbp n).toArray⟩,0⟩]
 | .var s=>[tk s]
 | .sub a b=>enc (decide (a.lv<2)) a.wT++[tk ⟨#[45]⟩]++enc (decide (b.lv<3)) b.wT
 | .app a b=>enc (decide (a.lv<4)) a.wT++enc (decide (b.lv<5)) b.wT
 | .fn x b=>[tk ⟨#[102,110]⟩,tk x,tk ⟨#[61,62]⟩]++b.wT
def Ti.fits:Ti→Prop
 | .num n=>n≤9223372036854775807
 | .var s=>s.size≤140737488355328
 | .sub a b=>a.fits∧b.fits
 | .app a b=>a.fits∧b.fits
 | .fn x b=>x.size≤140737488355328∧b.fits
def zek(t:Ti):Prop:=∀(w:World) (F:Nat→Prop) (v v0:Value) (base R:Nat) (L:List RT),ExAt w F t.ex v→(∀k,F k→k<base)→WrV w base R L v0→Gl w→6≤base→L.length+t.wT.length≤1000000 →
 Calls Tryz.prog 68 #[.pointer (some ⟨R,0,none⟩),v] w fun e w'=>e=.returned (.tuple #[])∧Wrote w v0 base R (L++t.wT) w'
theorem znb(T:List ByteArray)(hT : ∀t∈T,t.size≤140737488355328)(m:Nat)(hm:m=T.length)(cs:Array Value)(qn:cs=(T.map Value.string).toArray)(w:World)(g:Nat)(hgs:g=w.heap.size)(base R:Nat)(L:List RT)(v0:Value)(hg:Gl w)(hB:6≤base)(cQ:WrV w base R L v0)(hl:L.length+T.length≤1000000) :
  Calls Tryz.prog 137 #[.pointer (some ⟨R,0,none⟩),.slice (some ⟨g,0,none⟩) m m] (w.alloc (.cells cs 9)) fun e w'=>e=.returned (.tuple #[])∧Wrote w v0 base R (L++T.map tk) w':=by
 subst hgs;exact put_w T hT m hm cs qn w base R L v0 hg hB cQ hl
theorem Gl.wrote{w w':World}{base R:Nat}{L:List RT}{v0:Value}(h:Gl w)(hV:WrV w base R L v0)(hB:6≤base)(hf:Fr (fun k=>k=R∨v0.ownBlock=some k) w w'):Gl w':=h.keep hf (fun k e=>qyu hB (hV.above k e))
theorem zly(nu:Int)(nm ag:ByteArray)(la:Option Addr)(na ca:Nat)(lp:Option Addr)(np cp:Nat)(k:Int)(hk:k=1∨k=2∨k=4∨k=5)(w:World) :
  Calls Tryz.prog 204 #[.agg #[.int .i64 k,.int .i64 nu,.string nm,.string ag,.slice la na ca,.slice lp np cp]] w fun e w'=>e=.returned (.int .i64 (if k=1∨k=2 then 5 else if k=4 then 4 else 0))∧Old w w':=by
 have kB:=Blk.new w #[.int .i64 k,.int .i64 nu,.string nm,.string ag,.slice la na ca,.slice lp np cp] 32;have c0:=kB.c 0 (.int .i64 k) rfl;rcases hk with rfl | rfl | rfl | rfl
 all_goals
  go_enter Tryz.func204,Tryz.ntmps204
  go_wp2;go_ret;exact⟨rfl,(Old.refl w).alloc _⟩
theorem zua(nu:Int)(ag:ByteArray)(la:Option Addr)(na ca:Nat)(lp:Option Addr)(np cp:Nat)(w:World) :
  Calls Tryz.prog 204 #[.agg #[.int .i64 9,.int .i64 nu,.string ⟨#[45]⟩,.string ag,.slice la na ca,.slice lp np cp]] w fun e w'=>e=.returned (.int .i64 2)∧Old w w':=by
 have kB:=Blk.new w #[.int .i64 9,.int .i64 nu,.string ⟨#[45]⟩,.string ag,.slice la na ca,.slice lp np cp] 32;have c0:=kB.c 0 (.int .i64 9) rfl;have c2:=kB.c 2 (.string ⟨#[45]⟩) rfl
 go_enter Tryz.func204,Tryz.ntmps204
 go_wp2;go_ret;exact⟨rfl,(Old.refl w).alloc _⟩
theorem zh5(t:Ti)(w0:World)(F:Nat→Prop)(v:Value)(h:ExAt w0 F t.ex v)(w:World):Calls Tryz.prog 204 #[v] w fun e w'=>e=.returned (.int .i64 t.lv)∧Old w w':=by
 cases t
 all_goals
  rw [Ti.ex,ExAt] at h;obtain⟨sv,xs,pv,ps,rfl,hr,-,pr,-⟩:=h;obtain⟨la,c,rfl⟩:=zad hr.1;obtain⟨lp,q,rfl⟩:=zad pr.1
 ·exact zly _ _ _ _ _ _ _ _ _ 1 (.inl rfl) w
 ·exact zly _ _ _ _ _ _ _ _ _ 2 (.inr (.inl rfl)) w
 ·exact zua _ _ _ _ _ _ _ _ w
 ·exact zly _ _ _ _ _ _ _ _ _ 4 (.inr (.inr (.inl rfl))) w
 ·exact zly _ _ _ _ _ _ _ _ _ 5 (.inr (.inr (.inr rfl))) w
theorem zkz(t:Ti)(H:zek t)(bo:Bool)(w:World)(F:Nat→Prop)(v v0:Value)(base R:Nat)(L:List RT)(hE:ExAt w F t.ex v)(hF : ∀k,F k→k<base)(hV:WrV w base R L v0)(hg:Gl w)(hB:6≤base)(hl:L.length+(enc bo t.wT).length≤1000000) :
  Calls Tryz.prog 203 #[.pointer (some ⟨R,0,none⟩),.bool bo,v,.func (.func 68) #[.pointer (some ⟨R,0,none⟩)] #[]] w fun e w'=>e=.returned (.tuple #[])∧Wrote w v0 base R (L++enc bo t.wT) w':=by
 obtain⟨kd,nu,nm,ag,la,na,ca,lp,np,cp,rfl⟩:=hE.parts;obtain⟨w1,ju⟩ : ∃w1,w.alloc (.cells #[.int .i64 kd,.int .i64 nu,.string nm,.string ag,.slice la na ca,.slice lp np cp] 32)=w1:=⟨_,rfl⟩;have kB:Blk w1 w.heap.size #[.int .i64 kd,.int .i64 nu,.string nm,.string ag,.slice la na ca,.slice lp np cp] 32:=by rw [← ju];exact Blk.new _ _ _
 have O1:Old w w1:=by rw [← ju];exact (Old.refl w).alloc _
 have j5:w1.heap.size=w.heap.size+1:=by rw [← ju];exact qyd _ _
 have xl:=hV.old O1;have uc:=hg.old O1;have eZ:=hE.keep O1 (fun _ _ e=>e);have hRw:=hV.lt;have cm:=hV.own;have vS:=qya ju;clear ju;cases bo
 ·have gB:L.length+t.wT.length≤1000000:=hl;obtain⟨c0,c1,c2,c3,c4,c5⟩:=kB.c6;have hC:=H w1 F _ v0 base R L eZ hF xl uc hB gB;have HC:=qya hC;clear hC
  go_enter Tryz.func203,Tryz.ntmps203
  go_wp2_with fail
  rw [vS.out]
  go_wp2_with fail
  (with_reducible refine HC.out.mono ?_)
  rintro e w2 ⟨rfl,xi⟩;have HR:=qya xi;clear xi;go_wp2
  go_end0
  exact⟨rfl,Wrote.fore O1 HR.out⟩
 ·have tI:L.length+(t.wT.length+1+1)≤1000000:=by simpa [enc] using hl
  have gB:L.length+(1+t.wT.length+1)≤1000000:=by omega
  have hC:=znb [⟨#[40]⟩] (by intro u hu;cases hu with | head=>exact (by decide:(1:Nat)≤140737488355328) | tail _ h=>cases h) 1 rfl #[.string ⟨#[40]⟩] rfl w1 (w.heap.size+1) j5.symm base R L v0 uc hB xl (by simp only [qyh];omega);have HC:=qya hC;have HK:=qya (And.intro kB (And.intro eZ (And.intro uc xl)));clear hC kB eZ uc xl hE hg hV
  go_enter Tryz.func203,Tryz.ntmps203
  go_wp2_with fail
  rw [vS.out]
  go_wp2_with fail
  (with_reducible refine HC.out.mono ?_)
  rintro e w2 ⟨rfl,v1,dR,f2,o2⟩;obtain⟨kB,eZ,uc,xl⟩:=HK.out;have fH:=kB.keep f2 (fun e=>e.elim (fun e=>by omega) (fun e=>by have:=(cm _ e).2;omega));have vI:=eZ.keep f2 (fun k hk e=>by have:=hF k hk;have:=xl.above k e;omega);have xW:=uc.wrote xl hB f2;obtain⟨c0,c1,c2,c3,c4,c5⟩:=fH.c6;have tb:=H w2 F _ v1 base R _ vI hF dR xW hB (by simp only [qye,List.length_map,qyh];omega);have tB:=qya tb;have HK2:=qya (And.intro dR (And.intro f2 (And.intro o2 xW)));clear tb kB eZ uc xl vI dR f2 o2 xW fH
  go_wp2_with fail
  (with_reducible refine tB.out.mono ?_)
  rintro e w3 ⟨rfl,v2,yg,f3,o3⟩;obtain⟨dR,f2,o2,xW⟩:=HK2.out;have vF:=xW.wrote dR hB f3;have nx:=znb [⟨#[41]⟩] (by intro u hu;cases hu with | head=>exact (by decide:(1:Nat)≤140737488355328) | tail _ h=>cases h) 1 rfl #[.string ⟨#[41]⟩] rfl w3 w3.heap.size rfl base R _ v2 vF hB yg (by simp only [qye,List.length_map,qyh];omega);have eE:=qya nx;have HK3:=qya (And.intro f2 (And.intro o2 (And.intro f3 o3)));clear nx dR f2 o2 xW vF yg f3 o3 c0 c1 c2 c3 c4 c5
  go_wp2_with fail
  (with_reducible refine eE.out.mono ?_)
  rintro e w4 ⟨rfl,dk⟩;have HR:=qya dk;clear dk;go_wp2
  go_end0
  obtain⟨f2,o2,f3,o3⟩:=HK3.out;have:=Wrote.fore O1 (Wrote.more f2 o2 (Wrote.more f3 o3 HR.out));have ug:L++[(⟨#[40]⟩:ByteArray)].map tk++t.wT++[(⟨#[41]⟩:ByteArray)].map tk=L++enc true t.wT:=by simp [enc]
  rw [ug] at this;exact⟨rfl,this⟩
def BoxE(w:World)(b:Nat)(kd nu:Int)(nm ag:ByteArray)(la:Option Addr)(na ca:Nat)(lp:Option Addr)(np cp:Nat):Prop:=w.cell? ⟨b,0,none⟩=some (.int .i64 kd)∧w.cell? ⟨b,1,none⟩=some (.int .i64 nu)∧w.cell? ⟨b,2,none⟩=some (.string nm)∧w.cell? ⟨b,3,none⟩=some (.string ag)∧w.cell? ⟨b,4,none⟩=some (.slice la na ca)∧w.cell? ⟨b,5,none⟩=some (.slice lp np cp)
theorem BoxE.of{w:World}{b:Nat}{kd nu:Int}{nm ag:ByteArray}{la:Option Addr}{na ca:Nat}{lp:Option Addr}{np cp:Nat}(k:Blk w b #[.int .i64 kd,.int .i64 nu,.string nm,.string ag,.slice la na ca,.slice lp np cp] 32):BoxE w b kd nu nm ag la na ca lp np cp:=
 ⟨k.cell (i:=0) rfl,k.cell (i:=1) rfl,k.cell (i:=2) rfl,k.cell (i:=3) rfl,k.cell (i:=4) rfl,k.cell (i:=5) rfl⟩
theorem zuo(t:Ti)(H:zek t)(gE:Int)(w:World)(F:Nat→Prop)(v v0:Value)(base R:Nat)(L:List RT)(hE:ExAt w F t.ex v)(hF : ∀k,F k→k<base)(hV:WrV w base R L v0)(hg:Gl w)(hB:6≤base)(hl:L.length+(enc (decide (t.lv<gE)) t.wT).length≤1000000) :
  Calls Tryz.prog 208 #[.pointer (some ⟨R,0,none⟩),.int .i64 gE,v] w fun e w'=>e=.returned (.tuple #[])∧Wrote w v0 base R (L++enc (decide (t.lv<gE)) t.wT) w':=by
 obtain⟨kd,nu,nm,ag,la,na,ca,lp,np,cp,rfl⟩:=hE.parts;obtain⟨w1,ju⟩ : ∃w1,w.alloc (.cells #[.int .i64 kd,.int .i64 nu,.string nm,.string ag,.slice la na ca,.slice lp np cp] 32)=w1:=⟨_,rfl⟩;have kB:Blk w1 w.heap.size #[.int .i64 kd,.int .i64 nu,.string nm,.string ag,.slice la na ca,.slice lp np cp] 32:=by rw [← ju];exact Blk.new _ _ _
 have O1:Old w w1:=by rw [← ju];exact (Old.refl w).alloc _
 have O2:Old w w1.drew:=O1.drew;have hRw:=hV.lt;have cm:=hV.own;have fH:=kB.drew;have hS0:BoxE w1.drew w.heap.size kd nu nm ag la na ca lp np cp:=BoxE.of fH;have bT:=zh5 t w F _ hE w1.drew;have fm : ∀w5,Old w1.drew w5→Calls Tryz.prog 203 #[.pointer (some ⟨R,0,none⟩),.bool (decide (t.lv<gE)),.agg #[.int .i64 kd,.int .i64 nu,.string nm,.string ag,.slice la na ca,.slice lp np cp],.func (.func 68) #[.pointer (some ⟨R,0,none⟩)] #[]] w5 fun e w6=>e=.returned (.tuple #[])∧BoxE w6 w.heap.size kd nu nm ag la na ca lp np cp∧Wrote w v0 base R (L++enc (decide (t.lv<gE)) t.wT) w6:=fun w5 o5=>by
  have o:=O2.trans o5;refine (zkz t H _ w5 F _ v0 base R L (hE.keep o (fun _ _ e=>e)) hF (hV.old o) (hg.old o) hB hl).mono ?_;rintro e w6 ⟨rfl,hW⟩;exact⟨rfl,BoxE.of ((fH.keep o5 (fun e=>e)).keep hW.fr (fun e=>e.elim (fun e=>by omega) (fun e=>by have:=(cm _ e).2;omega))),Wrote.fore o hW⟩
 have kk : ∀w5,Old w1.drew w5→BoxE w5 w.heap.size kd nu nm ag la na ca lp np cp:=fun w5 o5=>BoxE.of (fH.keep o5 (fun e=>e));have vS:=qya ju;have mD:=qya bT;have HN:=qya fm;have HK:=qya kk;clear ju bT fm kk kB fH hE hV hl O1 O2
 go_enter Tryz.func208,Tryz.ntmps208
 go_wp2_with fail
 rw [vS.out]
 go_region_held3 (fun w'=>w'.cell? ⟨w.heap.size,0,none⟩=some (.int .i64 kd)∧w'.cell? ⟨w.heap.size,1,none⟩=some (.int .i64 nu)∧w'.cell? ⟨w.heap.size,2,none⟩=some (.string nm)∧w'.cell? ⟨w.heap.size,3,none⟩=some (.string ag)∧w'.cell? ⟨w.heap.size,4,none⟩=some (.slice la na ca)∧w'.cell? ⟨w.heap.size,5,none⟩=some (.slice lp np cp))
  (first | exact hS0 | exact HK.out _ (by assumption) | exact hB6)
  (first
   | (go_at_call 204;refine mD.out.mono ?_;rintro e w5 ⟨rfl,hO5⟩)
   | (go_at_call 203;refine (HN.out _ hO5).mono ?_;rintro e w6 ⟨rfl,hB6,hW6⟩))
 all_goals
  have HR:=qya hW6;clear hW6;go_wp2
  go_end0
  exact⟨rfl,HR.out⟩
end Go.Proofs.YtclgbmmambkiaaaGreatDoor
namespace Sx
def all2{α : Type}(f : α→α→Bool):List α→List α→Bool
 | [],[]=>true
 | x::l,y::m=>f x y&&all2 f l m
 | _,_=>false
theorem zmm{α : Type}{f : α→α→Bool} : ∀ {l m:List α},l.length=m.length→(∀i (h1:i<l.length) (h2:i<m.length),f l[i] m[i]=true)→all2 f l m=true
 | [],[],_,_=>rfl
 | x::l,y::m,h,hi=>by
  unfold all2;rw [show f x y=true from hi 0 (by simp) (by simp),Bool.true_and];exact zmm (by simpa using h) (fun i h1 h2=>hi (i+1) (by simpa using h1) (by simpa using h2))
 | [],y::m,h,_=>by cases h
 | x::l,[],h,_=>by cases h
theorem zve{α : Type}{f : α→α→Bool} : ∀ {l m:List α},all2 f l m=true→∀i (h1:i<l.length) (h2:i<m.length),f l[i] m[i]=true
 | x::l,y::m,h,0,_,_=>by unfold all2 at h;rw [Bool.and_eq_true] at h;exact h.1
 | x::l,y::m,h,i+1,h1,h2=>by unfold all2 at h;rw [Bool.and_eq_true] at h;exact zve h.2 i (by simpa using h1) (by simpa using h2)
theorem zpx{α : Type}{f : α→α→Bool}{l m:List α}{i:Nat}(h1:i<l.length)(h2:i<m.length)(h:f l[i] m[i]=false):all2 f l m=false:=by
 cases hs:all2 f l m
 ·rfl
 ·rw [zve hs i h1 h2] at h;cases h
mutual
def zfd:Pa→Pa→Bool
 | .mk k n a,.mk k' n' a'=>(k==k')&&((n==n')&&((a.length==a'.length)&&zdb a a'))
def zdb:List Pa→List Pa→Bool
 | [],[]=>true
 | x::l,y::m=>zfd x y&&zdb l m
 | [],_::_=>false
 | _::_,[]=>false
end
mutual
def zg0:Ex→Ex→Bool
 | .mk k u n g a p,.mk k' u' n' g' a' p'=>(k==k')&&((u==u')&&((n==n')&&((g==g')&&((a.length==a'.length)&&((p.length==p'.length)&&(zdb p p'&&zeg a a'))))))
def zeg:List Ex→List Ex→Bool
 | [],[]=>true
 | x::l,y::m=>zg0 x y&&zeg l m
 | [],_::_=>false
 | _::_,[]=>false
end
theorem zef : ∀(l m:List Pa),zdb l m=all2 zfd l m
 | [],[]=>by rw [zdb];rfl
 | x::l,y::m=>by rw [zdb,zef l m];rfl
 | [],_::_=>by rw [zdb];rfl
 | _::_,[]=>by rw [zdb];rfl
theorem zgz : ∀(l m:List Ex),zeg l m=all2 zg0 l m
 | [],[]=>by rw [zeg];rfl
 | x::l,y::m=>by rw [zeg,zgz l m];rfl
 | [],_::_=>by rw [zeg];rfl
 | _::_,[]=>by rw [zeg];rfl
end Sx
namespace Go.Proofs.YtclgbmmambkiaaaGreatDoor
open Go.RowKit
theorem zrj(k k':Int)(nm gL:ByteArray)(a a':List Sx.Pa)(la yG:Option Addr)(c c':Nat)(xs yL:List Value)(F F':Nat→Prop)(w0:World)
  (hr:RowAt w0 F 37 3 (.slice la a.length c) a.length xs)(ht:PasAt w0 F a xs)(jf:RowAt w0 F' 37 3 (.slice yG a'.length c') a'.length yL)(gP:PasAt w0 F' a' yL)
  (qs : ∀i (h1:i<a.length) (h2:i<a'.length) (W:World) (_:Old w0 W) (v v':Value),PaAt W F a[i] v→PaAt W F' a'[i] v'→Calls Tryz.prog 22 #[v,v'] W fun e W'=>e=.returned (.bool (Sx.zfd a[i] a'[i]))∧Old W W') :
  Calls Tryz.prog 22 #[.agg #[.int .i64 k,.string nm,.slice la a.length c],.agg #[.int .i64 k',.string gL,.slice yG a'.length c']] w0 fun e w'=>e=.returned (.bool ((k==k')&&((nm.toList==gL.toList)&&((a.length==a'.length)&&Sx.zdb a a'))))∧Old w0 w':=by
 have O2:Old w0 ((w0.alloc (.cells #[.int .i64 k,.string nm,.slice la a.length c] 37)).alloc (.cells #[.int .i64 k',.string gL,.slice yG a'.length c'] 37)):=((Old.refl w0).alloc _).alloc _;have kA:Blk ((w0.alloc (.cells #[.int .i64 k,.string nm,.slice la a.length c] 37)).alloc (.cells #[.int .i64 k',.string gL,.slice yG a'.length c'] 37)) w0.heap.size #[.int .i64 k,.string nm,.slice la a.length c] 37:=(Blk.new w0 _ _).alloc _;have kB:Blk ((w0.alloc (.cells #[.int .i64 k,.string nm,.slice la a.length c] 37)).alloc (.cells #[.int .i64 k',.string gL,.slice yG a'.length c'] 37)) (w0.heap.size+1) #[.int .i64 k',.string gL,.slice yG a'.length c'] 37:=Blk.new' (by simp) _ _;cases h0:(k==k')
 ·have hne0:Hid True:=qya trivial;have hnb:(k != k')=true:=by rw [bne,h0];rfl
  clear hr ht jf gP qs
  go_enter Tryz.func22,Tryz.ntmps22
  go_wp2;go_ret;exact⟨rfl,O2⟩
 ·have hnb0:(k != k')=false:=by rw [bne,h0];rfl
  cases h1:(nm.toList==gL.toList)
  ·have hne1:Hid True:=qya trivial;clear hr ht jf gP qs
   go_enter Tryz.func22,Tryz.ntmps22
   go_wp2;go_ret;exact⟨rfl,O2⟩
  ·skip
   by_cases hl:a.length=a'.length
   ·have xY:((a.length==a'.length))=true:=(by simpa using hl);obtain⟨n,hn⟩ : ∃n,a.length=n:=⟨_,rfl⟩;have xg:a'.length=n:=(by rw [← hl,hn]);have qX:=zbm hr;have HR:=qya hr;have HR':=qya jf;rw [xY];have HN:=qya (And.intro hn xg);have dh:=qya qX;have tC:=qya qs;rw [hn] at O2 kA kB ⊢;rw [xg] at O2 kA kB ⊢;obtain⟨w1,ju⟩ : ∃w1,((w0.alloc (.cells #[.int .i64 k,.string nm,.slice la n c] 37)).alloc (.cells #[.int .i64 k',.string gL,.slice yG n c'] 37))=w1:=⟨_,rfl⟩;have vS:=qya ju;rw [ju] at O2 kA kB;have HO:=qya O2;obtain⟨hU,fI,fA⟩:=kA.c3;obtain⟨dr,dt,db⟩:=kB.c3;rw [← ju] at hU dr fI dt fA db;clear hr jf qs hn xg qX hl xY ju O2
    go_enter Tryz.func22,Tryz.ntmps22
    go_wp2_with fail
    rw [vS.out]
    go_loopg [5] n (fun g s5 wr=>∃i:Nat,g=n-i∧i≤n∧s5=.int .i64 i∧(∀j (h1:j<a.length) (h2:j<a'.length),j<i→Sx.zfd a[j] a'[j]=true)∧Old w1 wr)
    case atStart=>exact⟨0,rfl,qyi _,rfl,fun j _ _ h=>absurd h (Nat.not_lt_zero j),Old.refl _⟩
    case round=>
     clear hU dr fI dt fA db;obtain⟨i,hg,hi,rfl,ql,hO⟩:=hrel;have HG:=qya hg;have qL:=qya ql;clear hg ql;have gu:Old w0 wr:=HO.out.trans hO;have sK:=Blk.keep kA hO (fun e=>e);have sV:=Blk.keep kB hO (fun e=>e);obtain⟨hU,fI,fA⟩:=sK.c3;obtain⟨dr,dt,db⟩:=sV.c3;cases hd:decide ((i:Int)<(n:Int))
     ·have he:i=n:=(by simp only [qyn] at hd;omega);have xq:decide (i<n)=false:=qyk (by omega);have uR:Sx.zdb a a'=true:=by
       rw [Sx.zef];exact Sx.zmm (by rw [HN.out.1,HN.out.2]) (fun j h1 h2=>qL.out j h1 h2 (by rw [he];have:=HN.out.1;omega))
      have HFIN:=qya uR;clear uR he hi;go_wp2;go_ret;exact⟨by rw [HFIN.out];rfl,gu⟩
     ·have qx:i<n:=(by simp only [qyo] at hd;omega);have xq:decide (i<n)=true:=qyl qx;have qE:i<a.length:=(by have:=HN.out.1;omega);have xY:i<a'.length:=(by have:=HN.out.2;omega);have vQ:=HR.out.keep gu (fun _ _ e=>e);have wk:=HR'.out.keep gu (fun _ _ e=>e);rw [HN.out.1] at vQ;rw [HN.out.2] at wk;obtain⟨a0,a1,a2,mo,mi,ma,fu⟩:=PasAt.nth a xs ht i qE;obtain⟨b0,b1,b2,me,ml,ms,fy⟩:=PasAt.nth a' yL gP i xY;have xI:Sx.zfd a[i] a'[i]=false→Sx.zdb a a'=false:=fun h=>by
       rw [Sx.zef];exact Sx.zpx qE xY h
      have uz:Sx.zfd a[i] a'[i]=true→∀j (h1:j<a.length) (h2:j<a'.length),j<i+1→Sx.zfd a[j] a'[j]=true:=fun h j h1 h2 hj=>by
       by_cases rK:j<i
       ·exact qL.out j h1 h2 rK
       ·obtain rfl:j=i:=(by omega);exact h
      have ph:=fu.keep gu.drew (fun _ _ e=>e);have pf:=fy.keep gu.drew (fun _ _ e=>e);obtain⟨jg,si,sZ,sQ,mW,hpa⟩:=ph.parts;obtain⟨zx,sl,sJ,so,mU,kW⟩:=pf.parts;cases hpa;cases kW;have hc3:=tC.out i qE xY wr.drew gu.drew _ _ ph pf;obtain⟨rb,sD⟩ : ∃b,Sx.zfd a[i] a'[i]=b:=⟨_,rfl⟩;rw [sD] at xI uz hc3;have su:=qya xI;have tU:=qya uz;obtain⟨g1,tJ,uc,-,-⟩:=vQ.1.form (by omega);obtain⟨g2,tQ,xW,-,-⟩:=wk.1.form (by omega);cases uc;cases xW;have mX:wr.cell? ⟨g1,i*3,none⟩=some (.int .i64 jg):=(by rw [vQ.1.cellAt (i*3) (by omega),mo]);have mK:wr.cell? ⟨g1,i*3+1,none⟩=some (.string si):=(by rw [vQ.1.cellAt (i*3+1) (by omega),mi]);have mV:wr.cell? ⟨g1,i*3+2,none⟩=some (.slice sZ sQ mW):=(by rw [vQ.1.cellAt (i*3+2) (by omega),ma]);have mZ:wr.cell? ⟨g2,i*3,none⟩=some (.int .i64 zx):=(by rw [wk.1.cellAt (i*3) (by omega),me]);have mJ:wr.cell? ⟨g2,i*3+1,none⟩=some (.string sl):=(by rw [wk.1.cellAt (i*3+1) (by omega),ml]);have mQ:wr.cell? ⟨g2,i*3+2,none⟩=some (.slice sJ so mU):=(by rw [wk.1.cellAt (i*3+2) (by omega),ms]);have jy:wrap64 ((i:Int)+1)=((i+1:Nat):Int):=by
       rw [IntWalk.wrap64_in _ (by have:=dh.out;have:=HN.out.1;unfold maxLen at *;omega)];omega
      have ze:=qya jy;have zw:=qya qx;have mg:Old w1 wr.drew:=hO.drew;obtain⟨wd,vo⟩ : ∃wd,wr.drew=wd:=⟨_,rfl⟩;have lr:Blk wd _ _ _:=vo▸sK.drew;have tM:Blk wd _ _ _:=vo▸sV.drew;have mX:wd.cell? ⟨g1,i*3,none⟩=some (.int .i64 jg):=vo▸mX;have mK:wd.cell? ⟨g1,i*3+1,none⟩=some (.string si):=vo▸mK;have mV:wd.cell? ⟨g1,i*3+2,none⟩=some (.slice sZ sQ mW):=vo▸mV;have mZ:wd.cell? ⟨g2,i*3,none⟩=some (.int .i64 zx):=vo▸mZ;have mJ:wd.cell? ⟨g2,i*3+1,none⟩=some (.string sl):=vo▸mJ;have mQ:wd.cell? ⟨g2,i*3+2,none⟩=some (.slice sJ so mU):=vo▸mQ;obtain⟨ya0,ya1,ya2⟩:=lr.c3;obtain⟨yb0,yb1,yb2⟩:=tM.c3;rw [vo] at mg hc3;have mH:=qya vo;clear jy mo me mi ml ma ms qE xY xI uz sD ph pf fu fy vo
      go_wp2_with fail
      refine wp_region_still_tail 10 (by kernel_rfl) (by kernel_rfl) ?_;simp only [List.take_succ_cons,List.take_zero,List.drop_succ_cons,List.drop_zero];change wpStill _ _ wr.drew _ _ _;rw [mH.out]
      repeat still_step
      refine wpStill_nil ?_;change wpList _ _ _ _ _ wr.drew;rw [mH.out]
      go_wp2_with fail
      (with_reducible refine hc3.mono ?_)
      rintro e w2 ⟨rfl,o2⟩;have uH:=mg.trans o2;clear hc3;cases rb
      ·go_wp2;go_ret;exact⟨by rw [su.out (by simp)];rfl,HO.out.trans uH⟩
      ·have jy:=ze.out;go_wp2
       go_roundg (n-(i+1))
       case measure=>have:=zw.out;have:=HG.out;clear jy;omega
       case rel=>exact⟨i+1,rfl,zw.out,by first | rfl | rw [ze.out],tU.out (by simp),uH⟩
   ·have xY:((a.length==a'.length))=false:=(by simpa using hl);have gC:((a.length:Int) != (a'.length:Int))=true:=(by simp;omega);rw [xY];clear hr ht jf gP qs hl xY
    go_enter Tryz.func22,Tryz.ntmps22
    go_wp2;go_ret;exact⟨rfl,O2⟩
theorem zm6(p p':Sx.Pa)(F F':Nat→Prop)(v v':Value)(W:World)(h:PaAt W F p v)(h':PaAt W F' p' v') :
  Calls Tryz.prog 22 #[v,v'] W fun e W'=>e=.returned (.bool (Sx.zfd p p'))∧Old W W':=by
 match p,p' with
 | .mk k s args,.mk k' s' args'=>
  rw [PaAt] at h;rw [PaAt] at h';obtain⟨sv,xs,rfl,hr,ht⟩:=h;obtain⟨sn,yL,rfl,jf,gP⟩:=h';obtain⟨la,c,rfl⟩:=zad hr.1;obtain⟨yG,c',rfl⟩:=zad jf.1;have:=zrj k k' ⟨s.toArray⟩ ⟨s'.toArray⟩ args args' la yG c c' xs yL F F' W hr ht jf gP (fun i h1 h2 W o v v' hv rh=>zm6 args[i] args'[i] F F' v v' W hv rh);rw [qyw s,qyw s'] at this;rw [Sx.zfd];exact this
termination_by SizeOf.sizeOf p
decreasing_by
 have:=List.sizeOf_lt_of_mem (List.getElem_mem h1);simp only [Sx.Pa.mk.sizeOf_spec];omega
theorem zrl(k k':Int)(u u':Int)(nm gL:ByteArray)(ag mG:ByteArray)(a a':List Sx.Ex)(p p':List Sx.Pa)(la yG lp pz:Option Addr)(c c' q q':Nat)(xs yL ys ys':List Value)(F F':Nat→Prop)(w0:World)
  (hr:RowAt w0 F 32 6 (.slice la a.length c) a.length xs)(ht:ExsAt w0 F a xs)(jf:RowAt w0 F' 32 6 (.slice yG a'.length c') a'.length yL)(gP:ExsAt w0 F' a' yL)
  (pr:RowAt w0 F 37 3 (.slice lp p.length q) p.length ys)(pt:PasAt w0 F p ys)(cL:RowAt w0 F' 37 3 (.slice pz p'.length q') p'.length ys')(nU:PasAt w0 F' p' ys')
  (qs : ∀i (h1:i<a.length) (h2:i<a'.length) (W:World) (_:Old w0 W) (v v':Value),ExAt W F a[i] v→ExAt W F' a'[i] v'→Calls Tryz.prog 20 #[v,v'] W fun e W'=>e=.returned (.bool (Sx.zg0 a[i] a'[i]))∧Old W W') :
  Calls Tryz.prog 20 #[.agg #[.int .i64 k,.int .i64 u,.string nm,.string ag,.slice la a.length c,.slice lp p.length q],.agg #[.int .i64 k',.int .i64 u',.string gL,.string mG,.slice yG a'.length c',.slice pz p'.length q']] w0 fun e w'=>e=.returned (.bool ((k==k')&&((u==u')&&((nm.toList==gL.toList)&&((ag.toList==mG.toList)&&((a.length==a'.length)&&((p.length==p'.length)&&(Sx.zdb p p'&&Sx.zeg a a'))))))))∧Old w0 w':=by
 have O2:Old w0 ((w0.alloc (.cells #[.int .i64 k,.int .i64 u,.string nm,.string ag,.slice la a.length c,.slice lp p.length q] 32)).alloc (.cells #[.int .i64 k',.int .i64 u',.string gL,.string mG,.slice yG a'.length c',.slice pz p'.length q'] 32)):=((Old.refl w0).alloc _).alloc _;have kA:Blk ((w0.alloc (.cells #[.int .i64 k,.int .i64 u,.string nm,.string ag,.slice la a.length c,.slice lp p.length q] 32)).alloc (.cells #[.int .i64 k',.int .i64 u',.string gL,.string mG,.slice yG a'.length c',.slice pz p'.length q'] 32)) w0.heap.size #[.int .i64 k,.int .i64 u,.string nm,.string ag,.slice la a.length c,.slice lp p.length q] 32:=(Blk.new w0 _ _).alloc _;have kB:Blk ((w0.alloc (.cells #[.int .i64 k,.int .i64 u,.string nm,.string ag,.slice la a.length c,.slice lp p.length q] 32)).alloc (.cells #[.int .i64 k',.int .i64 u',.string gL,.string mG,.slice yG a'.length c',.slice pz p'.length q'] 32)) (w0.heap.size+1) #[.int .i64 k',.int .i64 u',.string gL,.string mG,.slice yG a'.length c',.slice pz p'.length q'] 32:=Blk.new' (by simp) _ _;cases h0:(k==k')
 ·have hne0:Hid True:=qya trivial;have hnb:(k != k')=true:=by rw [bne,h0];rfl
  clear hr ht jf gP pr pt cL nU qs
  go_enter Tryz.func20,Tryz.ntmps20
  go_wp2;go_ret;exact⟨rfl,O2⟩
 ·have hnb0:(k != k')=false:=by rw [bne,h0];rfl
  cases h1:(u==u')
  ·have hne1:Hid True:=qya trivial;have hnb:(u != u')=true:=(by rw [bne,h1];rfl);clear hr ht jf gP pr pt cL nU qs
   go_enter Tryz.func20,Tryz.ntmps20
   go_wp2;go_ret;exact⟨rfl,O2⟩
  ·have hnb1:(u != u')=false:=(by rw [bne,h1];rfl);cases h2:(nm.toList==gL.toList)
   ·have rJ:Hid True:=qya trivial;clear hr ht jf gP pr pt cL nU qs
    go_enter Tryz.func20,Tryz.ntmps20
    go_wp2;go_ret;exact⟨rfl,O2⟩
   ·skip
    cases h3:(ag.toList==mG.toList)
    ·have rQ:Hid True:=qya trivial;clear hr ht jf gP pr pt cL nU qs
     go_enter Tryz.func20,Tryz.ntmps20
     go_wp2;go_ret;exact⟨rfl,O2⟩
    ·skip
     by_cases hl:a.length=a'.length
     case neg=>
      have xY:((a.length==a'.length))=false:=(by simpa using hl);have gC:((a.length:Int) != (a'.length:Int))=true:=(by simp;omega);rw [xY];clear hr ht jf gP pr pt cL nU qs hl xY
      go_enter Tryz.func20,Tryz.ntmps20
      go_wp2;go_ret;exact⟨rfl,O2⟩
     by_cases hp:p.length=p'.length
     case neg=>
      have xY:((p.length==p'.length))=false:=(by simpa using hp);have gC:((p.length:Int) != (p'.length:Int))=true:=(by simp;omega);rw [xY];have qE:((a.length:Int) != (a'.length:Int))=false:=(by simp [hl]);clear hr ht jf gP pr pt cL nU qs hp xY hl
      go_enter Tryz.func20,Tryz.ntmps20
      go_wp2;go_ret;exact⟨by simp,O2⟩
     case pos=>
      have xY:((a.length==a'.length))=true:=(by simpa using hl);have kW:((p.length==p'.length))=true:=(by simpa using hp);obtain⟨n,hn⟩ : ∃n,a.length=n:=⟨_,rfl⟩;have xg:a'.length=n:=(by rw [← hl,hn]);obtain⟨np,po⟩ : ∃n,p.length=n:=⟨_,rfl⟩;have lD:p'.length=np:=(by rw [← hp,po]);have qX:=zbm hr;have qo:=zbm pr;have HR:=qya hr;have HR':=qya jf;have PR:=qya pr;have PR':=qya cL;rw [xY,kW];have HN:=qya (And.intro hn xg);have PN:=qya (And.intro po lD);have dh:=qya qX;have PLE:=qya qo;have tC:=qya qs;rw [hn,po] at O2 kA kB ⊢;rw [xg,lD] at O2 kA kB ⊢;obtain⟨w1,ju⟩ : ∃w1,((w0.alloc (.cells #[.int .i64 k,.int .i64 u,.string nm,.string ag,.slice la n c,.slice lp np q] 32)).alloc (.cells #[.int .i64 k',.int .i64 u',.string gL,.string mG,.slice yG n c',.slice pz np q'] 32))=w1:=⟨_,rfl⟩;have vS:=qya ju;rw [ju] at O2 kA kB;have HO:=qya O2;obtain⟨hU,fI,fA,cH,cF,cG⟩:=kA.c6;obtain⟨dr,dt,db,nf,ng,nw⟩:=kB.c6;rw [← ju] at hU dr fI dt fA db cH nf cF ng cG nw;clear hr jf pr cL qs hn xg po lD qX qo hl hp xY kW ju O2
      go_enter Tryz.func20,Tryz.ntmps20
      go_wp2_with fail
      rw [vS.out]
      go_loopg [5] np (fun g s5 wr=>∃i:Nat,g=np-i∧i≤np∧s5=.int .i64 i∧(∀j (h1:j<p.length) (h2:j<p'.length),j<i→Sx.zfd p[j] p'[j]=true)∧Old w1 wr)
      case atStart=>exact⟨0,rfl,qyi _,rfl,fun j _ _ h=>absurd h (Nat.not_lt_zero j),Old.refl _⟩
      case round=>
       clear hU dr fI dt fA db cH nf cF ng cG nw;obtain⟨i,hg,hi,rfl,ql,hO⟩:=hrel;have HG:=qya hg;have qL:=qya ql;clear hg ql;have gu:Old w0 wr:=HO.out.trans hO;have sK:=Blk.keep kA hO (fun e=>e);have sV:=Blk.keep kB hO (fun e=>e);obtain⟨hU,fI,fA,cH,cF,cG⟩:=sK.c6;obtain⟨dr,dt,db,nf,ng,nw⟩:=sV.c6;cases hd:decide ((i:Int)<(np:Int))
       ·have he:i=np:=(by simp only [qyn] at hd;omega);have xq:decide (i<np)=false:=qyk (by omega);have uR:Sx.zdb p p'=true:=by
         rw [Sx.zef];exact Sx.zmm (by rw [PN.out.1,PN.out.2]) (fun j h1 h2=>qL.out j h1 h2 (by rw [he];have:=PN.out.1;omega))
        have HFP:=qya uR;clear uR he hi qL HG
        go_wp2_with fail
        go_loopg [6] n (fun g s5 wr=>∃i:Nat,g=n-i∧i≤n∧s5=.int .i64 i∧(∀j (h1:j<a.length) (h2:j<a'.length),j<i→Sx.zg0 a[j] a'[j]=true)∧Old w1 wr)
        case atStart=>exact⟨0,rfl,qyi _,rfl,fun j _ _ h=>absurd h (Nat.not_lt_zero j),hO⟩
        case round=>
         clear hU dr fI dt fA db cH nf cF ng cG nw;obtain⟨i,hg,hi,rfl,ql,hO⟩:=hrel;have HG:=qya hg;have qL:=qya ql;clear hg ql;have gu:Old w0 wr:=HO.out.trans hO;have sK:=Blk.keep kA hO (fun e=>e);have sV:=Blk.keep kB hO (fun e=>e);obtain⟨hU,fI,fA,cH,cF,cG⟩:=sK.c6;obtain⟨dr,dt,db,nf,ng,nw⟩:=sV.c6;cases hd:decide ((i:Int)<(n:Int))
         ·have he:i=n:=(by simp only [qyn] at hd;omega);have xq:decide (i<n)=false:=qyk (by omega);have uR:Sx.zeg a a'=true:=by
           rw [Sx.zgz];exact Sx.zmm (by rw [HN.out.1,HN.out.2]) (fun j h1 h2=>qL.out j h1 h2 (by rw [he];have:=HN.out.1;omega))
          have HFE:=qya uR;clear uR he hi qL HG;go_wp2;go_ret;exact⟨by rw [HFP.out,HFE.out];rfl,gu⟩
         ·have qx:i<n:=(by simp only [qyo] at hd;omega);have xq:decide (i<n)=true:=qyl qx;have qE:i<a.length:=(by have:=HN.out.1;omega);have xY:i<a'.length:=(by have:=HN.out.2;omega);have vQ:=HR.out.keep gu (fun _ _ e=>e);have wk:=HR'.out.keep gu (fun _ _ e=>e);rw [HN.out.1] at vQ;rw [HN.out.2] at wk;obtain⟨a0,a1,a2,a3,a4,a5,mo,mi,ma,ea3,ea4,ea5,fu⟩:=ExsAt.nth a xs ht i qE;obtain⟨b0,b1,b2,b3,b4,b5,me,ml,ms,eb3,eb4,eb5,fy⟩:=ExsAt.nth a' yL gP i xY;have xI:Sx.zg0 a[i] a'[i]=false→Sx.zeg a a'=false:=fun h=>by
           rw [Sx.zgz];exact Sx.zpx qE xY h
          have uz:Sx.zg0 a[i] a'[i]=true→∀j (h1:j<a.length) (h2:j<a'.length),j<i+1→Sx.zg0 a[j] a'[j]=true:=fun h j h1 h2 hj=>by
           by_cases rK:j<i
           ·exact qL.out j h1 h2 rK
           ·obtain rfl:j=i:=(by omega);exact h
          have ph:=fu.keep gu.drew (fun _ _ e=>e);have pf:=fy.keep gu.drew (fun _ _ e=>e);obtain⟨jg,uda,si,gga,sZ,sQ,mW,l3a,n3a,c3a,hpa⟩:=ph.parts;obtain⟨zx,udb,sl,ggb,sJ,so,mU,l3b,n3b,c3b,kW⟩:=pf.parts;cases hpa;cases kW;have hc3:=tC.out i qE xY wr.drew gu.drew _ _ ph pf;obtain⟨rb,sD⟩ : ∃b,Sx.zg0 a[i] a'[i]=b:=⟨_,rfl⟩;rw [sD] at xI uz hc3;have su:=qya xI;have tU:=qya uz;obtain⟨g1,tJ,uc,-,-⟩:=vQ.1.form (by omega);obtain⟨g2,tQ,xW,-,-⟩:=wk.1.form (by omega);cases uc;cases xW;have mX:wr.cell? ⟨g1,i*6,none⟩=some (.int .i64 jg):=(by rw [vQ.1.cellAt (i*6) (by omega),mo]);have mK:wr.cell? ⟨g1,i*6+1,none⟩=some (.int .i64 uda):=(by rw [vQ.1.cellAt (i*6+1) (by omega),mi]);have mV:wr.cell? ⟨g1,i*6+2,none⟩=some (.string si):=(by rw [vQ.1.cellAt (i*6+2) (by omega),ma]);have da3:wr.cell? ⟨g1,i*6+3,none⟩=some (.string gga):=(by rw [vQ.1.cellAt (i*6+3) (by omega),ea3]);have da4:wr.cell? ⟨g1,i*6+4,none⟩=some (.slice sZ sQ mW):=(by rw [vQ.1.cellAt (i*6+4) (by omega),ea4]);have da5:wr.cell? ⟨g1,i*6+5,none⟩=some (.slice l3a n3a c3a):=(by rw [vQ.1.cellAt (i*6+5) (by omega),ea5]);have mZ:wr.cell? ⟨g2,i*6,none⟩=some (.int .i64 zx):=(by rw [wk.1.cellAt (i*6) (by omega),me]);have mJ:wr.cell? ⟨g2,i*6+1,none⟩=some (.int .i64 udb):=(by rw [wk.1.cellAt (i*6+1) (by omega),ml]);have mQ:wr.cell? ⟨g2,i*6+2,none⟩=some (.string sl):=(by rw [wk.1.cellAt (i*6+2) (by omega),ms]);have db3:wr.cell? ⟨g2,i*6+3,none⟩=some (.string ggb):=(by rw [wk.1.cellAt (i*6+3) (by omega),eb3]);have db4:wr.cell? ⟨g2,i*6+4,none⟩=some (.slice sJ so mU):=(by rw [wk.1.cellAt (i*6+4) (by omega),eb4]);have db5:wr.cell? ⟨g2,i*6+5,none⟩=some (.slice l3b n3b c3b):=(by rw [wk.1.cellAt (i*6+5) (by omega),eb5]);have jy:wrap64 ((i:Int)+1)=((i+1:Nat):Int):=by
           rw [IntWalk.wrap64_in _ (by have:=dh.out;have:=HN.out.1;unfold maxLen at *;omega)];omega
          have ze:=qya jy;have zw:=qya qx;have mg:Old w1 wr.drew:=hO.drew;obtain⟨wd,vo⟩ : ∃wd,wr.drew=wd:=⟨_,rfl⟩;have lr:Blk wd _ _ _:=vo▸sK.drew;have tM:Blk wd _ _ _:=vo▸sV.drew;have mX:wd.cell? ⟨g1,i*6,none⟩=some (.int .i64 jg):=vo▸mX;have mK:wd.cell? ⟨g1,i*6+1,none⟩=some (.int .i64 uda):=vo▸mK;have mV:wd.cell? ⟨g1,i*6+2,none⟩=some (.string si):=vo▸mV;have da3:wd.cell? ⟨g1,i*6+3,none⟩=some (.string gga):=vo▸da3;have da4:wd.cell? ⟨g1,i*6+4,none⟩=some (.slice sZ sQ mW):=vo▸da4;have da5:wd.cell? ⟨g1,i*6+5,none⟩=some (.slice l3a n3a c3a):=vo▸da5;have mZ:wd.cell? ⟨g2,i*6,none⟩=some (.int .i64 zx):=vo▸mZ;have mJ:wd.cell? ⟨g2,i*6+1,none⟩=some (.int .i64 udb):=vo▸mJ;have mQ:wd.cell? ⟨g2,i*6+2,none⟩=some (.string sl):=vo▸mQ;have db3:wd.cell? ⟨g2,i*6+3,none⟩=some (.string ggb):=vo▸db3;have db4:wd.cell? ⟨g2,i*6+4,none⟩=some (.slice sJ so mU):=vo▸db4;have db5:wd.cell? ⟨g2,i*6+5,none⟩=some (.slice l3b n3b c3b):=vo▸db5;obtain⟨ya0,ya1,ya2,ya3,ya4,ya5⟩:=lr.c6;obtain⟨yb0,yb1,yb2,yb3,yb4,yb5⟩:=tM.c6;rw [vo] at mg hc3;have mH:=qya vo;clear jy mo me mi ml ma ms ea3 eb3 ea4 eb4 ea5 eb5 qE xY xI uz sD ph pf fu fy vo
          go_wp2_with fail
          refine wp_region_still_tail 10 (by kernel_rfl) (by kernel_rfl) ?_;simp only [List.take_succ_cons,List.take_zero,List.drop_succ_cons,List.drop_zero];change wpStill _ _ wr.drew _ _ _;rw [mH.out]
          repeat still_step
          refine wpStill_nil ?_;change wpList _ _ _ _ _ wr.drew;rw [mH.out]
          go_wp2_with fail
          (with_reducible refine hc3.mono ?_)
          rintro e w2 ⟨rfl,o2⟩;have uH:=mg.trans o2;clear hc3;cases rb
          ·go_wp2;go_ret;exact⟨by rw [HFP.out,su.out (by simp)];rfl,HO.out.trans uH⟩
          ·have jy:=ze.out;go_wp2
           go_roundg (n-(i+1))
           case measure=>have:=zw.out;have:=HG.out;clear jy;omega
           case rel=>exact⟨i+1,rfl,zw.out,by first | rfl | rw [ze.out],tU.out (by simp),uH⟩
       ·have qx:i<np:=(by simp only [qyo] at hd;omega);have xq:decide (i<np)=true:=qyl qx;have qE:i<p.length:=(by have:=PN.out.1;omega);have xY:i<p'.length:=(by have:=PN.out.2;omega);have vQ:=PR.out.keep gu (fun _ _ e=>e);have wk:=PR'.out.keep gu (fun _ _ e=>e);rw [PN.out.1] at vQ;rw [PN.out.2] at wk;obtain⟨a0,a1,a2,mo,mi,ma,fu⟩:=PasAt.nth p ys pt i qE;obtain⟨b0,b1,b2,me,ml,ms,fy⟩:=PasAt.nth p' ys' nU i xY;have xI:Sx.zfd p[i] p'[i]=false→Sx.zdb p p'=false:=fun h=>by
         rw [Sx.zef];exact Sx.zpx qE xY h
        have uz:Sx.zfd p[i] p'[i]=true→∀j (h1:j<p.length) (h2:j<p'.length),j<i+1→Sx.zfd p[j] p'[j]=true:=fun h j h1 h2 hj=>by
         by_cases rK:j<i
         ·exact qL.out j h1 h2 rK
         ·obtain rfl:j=i:=(by omega);exact h
        have ph:=fu.keep gu.drew (fun _ _ e=>e);have pf:=fy.keep gu.drew (fun _ _ e=>e);obtain⟨jg,si,sZ,sQ,mW,hpa⟩:=ph.parts;obtain⟨zx,sl,sJ,so,mU,kW⟩:=pf.parts;cases hpa;cases kW;have hc3:=(fun i (h1:i<p.length) (h2:i<p'.length) (W:World) (_:Old w0 W) (v v2:Value) (hv:PaAt W F p[i] v) (sU:PaAt W F' p'[i] v2)=>zm6 p[i] p'[i] F F' v v2 W hv sU) i qE xY wr.drew gu.drew _ _ ph pf;obtain⟨rb,sD⟩ : ∃b,Sx.zfd p[i] p'[i]=b:=⟨_,rfl⟩;rw [sD] at xI uz hc3;have su:=qya xI;have tU:=qya uz;obtain⟨g1,tJ,uc,-,-⟩:=vQ.1.form (by omega);obtain⟨g2,tQ,xW,-,-⟩:=wk.1.form (by omega);cases uc;cases xW;have mX:wr.cell? ⟨g1,i*3,none⟩=some (.int .i64 jg):=(by rw [vQ.1.cellAt (i*3) (by omega),mo]);have mK:wr.cell? ⟨g1,i*3+1,none⟩=some (.string si):=(by rw [vQ.1.cellAt (i*3+1) (by omega),mi]);have mV:wr.cell? ⟨g1,i*3+2,none⟩=some (.slice sZ sQ mW):=(by rw [vQ.1.cellAt (i*3+2) (by omega),ma]);have mZ:wr.cell? ⟨g2,i*3,none⟩=some (.int .i64 zx):=(by rw [wk.1.cellAt (i*3) (by omega),me]);have mJ:wr.cell? ⟨g2,i*3+1,none⟩=some (.string sl):=(by rw [wk.1.cellAt (i*3+1) (by omega),ml]);have mQ:wr.cell? ⟨g2,i*3+2,none⟩=some (.slice sJ so mU):=(by rw [wk.1.cellAt (i*3+2) (by omega),ms]);have jy:wrap64 ((i:Int)+1)=((i+1:Nat):Int):=by
         rw [IntWalk.wrap64_in _ (by have:=PLE.out;have:=PN.out.1;unfold maxLen at *;omega)];omega
        have ze:=qya jy;have zw:=qya qx;have mg:Old w1 wr.drew:=hO.drew;obtain⟨wd,vo⟩ : ∃wd,wr.drew=wd:=⟨_,rfl⟩;have lr:Blk wd _ _ _:=vo▸sK.drew;have tM:Blk wd _ _ _:=vo▸sV.drew;have mX:wd.cell? ⟨g1,i*3,none⟩=some (.int .i64 jg):=vo▸mX;have mK:wd.cell? ⟨g1,i*3+1,none⟩=some (.string si):=vo▸mK;have mV:wd.cell? ⟨g1,i*3+2,none⟩=some (.slice sZ sQ mW):=vo▸mV;have mZ:wd.cell? ⟨g2,i*3,none⟩=some (.int .i64 zx):=vo▸mZ;have mJ:wd.cell? ⟨g2,i*3+1,none⟩=some (.string sl):=vo▸mJ;have mQ:wd.cell? ⟨g2,i*3+2,none⟩=some (.slice sJ so mU):=vo▸mQ;obtain⟨ya0,ya1,ya2,ya3,ya4,ya5⟩:=lr.c6;obtain⟨yb0,yb1,yb2,yb3,yb4,yb5⟩:=tM.c6;rw [vo] at mg hc3;have mH:=qya vo;clear jy mo me mi ml ma ms qE xY xI uz sD ph pf fu fy vo
        go_wp2_with fail
        refine wp_region_still_tail 10 (by kernel_rfl) (by kernel_rfl) ?_;simp only [List.take_succ_cons,List.take_zero,List.drop_succ_cons,List.drop_zero];change wpStill _ _ wr.drew _ _ _;rw [mH.out]
        repeat still_step
        refine wpStill_nil ?_;change wpList _ _ _ _ _ wr.drew;rw [mH.out]
        go_wp2_with fail
        (with_reducible refine hc3.mono ?_)
        rintro e w2 ⟨rfl,o2⟩;have uH:=mg.trans o2;clear hc3;cases rb
        ·go_wp2;go_ret;exact⟨by rw [su.out (by simp)];rfl,HO.out.trans uH⟩
        ·have jy:=ze.out;go_wp2
         go_roundg (np-(i+1))
         case measure=>have:=zw.out;have:=HG.out;clear jy;omega
         case rel=>exact⟨i+1,rfl,zw.out,by first | rfl | rw [ze.out],tU.out (by simp),uH⟩
theorem zit(p p':Sx.Ex)(F F':Nat→Prop)(v v':Value)(W:World)(h:ExAt W F p v)(h':ExAt W F' p' v') :
  Calls Tryz.prog 20 #[v,v'] W fun e W'=>e=.returned (.bool (Sx.zg0 p p'))∧Old W W':=by
 match p,p' with
 | .mk k u s g args pats,.mk k' u' s' g' args' pats'=>
  rw [ExAt] at h;rw [ExAt] at h';obtain⟨sv,xs,pv,ps,rfl,hr,ht,pr,pt⟩:=h;obtain⟨sn,yL,pv',ps',rfl,jf,gP,cL,nU⟩:=h';obtain⟨la,c,rfl⟩:=zad hr.1;obtain⟨yG,c',rfl⟩:=zad jf.1;obtain⟨lp,q,rfl⟩:=zad pr.1;obtain⟨pz,q',rfl⟩:=zad cL.1;have:=zrl k k' u u' ⟨s.toArray⟩ ⟨s'.toArray⟩ ⟨g.toArray⟩ ⟨g'.toArray⟩ args args' pats pats' la yG lp pz c c' q q' xs yL ps ps' F F' W hr ht jf gP pr pt cL nU (fun i h1 h2 W o v v' hv rh=>zit args[i] args'[i] F F' v v' W hv rh);rw [qyw s,qyw s',qyw g,qyw g'] at this;rw [Sx.zg0];exact this
termination_by SizeOf.sizeOf p
decreasing_by
 have:=List.sizeOf_lt_of_mem (List.getElem_mem h1);simp only [Sx.Ex.mk.sizeOf_spec];omega
abbrev exV(kd nu:Int)(nm ag:ByteArray)(la:Option Addr)(na ca:Nat)(lp:Option Addr)(np cp:Nat):Value:=.agg #[.int .i64 kd,.int .i64 nu,.string nm,.string ag,.slice la na ca,.slice lp np cp]
abbrev exL(kd nu:Int)(nm ag:ByteArray)(la:Option Addr)(na ca:Nat)(lp:Option Addr)(np cp:Nat):List Value:=[.int .i64 kd,.int .i64 nu,.string nm,.string ag,.slice la na ca,.slice lp np cp]
theorem zp0{w:World}{F:Nat→Prop}{k u:Int}{n g:List UInt8}{a b:Sx.Ex}{v:Value}(h:ExAt w F (.mk k u n g [a,b] []) v) :
  ∃G cap lp np cp kd nu nm ag la na ca lq nq cq qI j3 qh j9 jR jN jD uK uV uP,v=exV k u ⟨n.toArray⟩ ⟨g.toArray⟩ (some ⟨G,0,none⟩) 2 cap lp np cp ∧
   w.ownsRow 0 32 6 (.slice (some ⟨G,0,none⟩) 2 cap) 2 (exL kd nu nm ag la na ca lq nq cq++exL qI j3 qh j9 jR jN jD uK uV uP)∧F G∧ExAt w F a (exV kd nu nm ag la na ca lq nq cq)∧ExAt w F b (exV qI j3 qh j9 jR jN jD uK uV uP):=by
 rw [ExAt] at h;obtain⟨sv,xs,pv,ps,rfl,hr,ht,pr,-⟩:=h;obtain⟨lp,np,rfl⟩:=zad pr.1;rw [ExsAt] at ht;obtain⟨a0,a1,a2,a3,a4,a5,ys,rfl,ha,ht⟩:=ht;rw [ExsAt] at ht;obtain⟨b0,b1,b2,b3,b4,b5,zs,rfl,hb,ht⟩:=ht;rw [ExsAt] at ht;subst ht;obtain⟨kd,nu,nm,ag,la,na,ca,lq,nq,cq,ea⟩:=ha.parts;obtain⟨qI,j3,qh,j9,jR,jN,jD,uK,uV,uP,eb⟩:=hb.parts;cases ea;cases eb;rcases hr.1.2 with ⟨-,h0⟩ | ⟨G,cap,vy,rfl,-,-,-⟩
 ·cases h0
 ·exact⟨G,cap,lp,0,np,kd,nu,nm,ag,la,na,ca,lq,nq,cq,qI,j3,qh,j9,jR,jN,jD,uK,uV,uP,rfl,hr.1,hr.2 _ rfl,ha,hb⟩
theorem zyv{w:World}{F:Nat→Prop}{k u:Int}{n g:List UInt8}{a:Sx.Ex}{v:Value}(h:ExAt w F (.mk k u n g [a] []) v) :
  ∃G cap lp np cp kd nu nm ag la na ca lq nq cq,v=exV k u ⟨n.toArray⟩ ⟨g.toArray⟩ (some ⟨G,0,none⟩) 1 cap lp np cp ∧
   w.ownsRow 0 32 6 (.slice (some ⟨G,0,none⟩) 1 cap) 1 (exL kd nu nm ag la na ca lq nq cq)∧F G∧ExAt w F a (exV kd nu nm ag la na ca lq nq cq):=by
 rw [ExAt] at h;obtain⟨sv,xs,pv,ps,rfl,hr,ht,pr,-⟩:=h;obtain⟨lp,np,rfl⟩:=zad pr.1;rw [ExsAt] at ht;obtain⟨a0,a1,a2,a3,a4,a5,ys,rfl,ha,ht⟩:=ht;rw [ExsAt] at ht;subst ht;obtain⟨kd,nu,nm,ag,la,na,ca,lq,nq,cq,ea⟩:=ha.parts;cases ea;rcases hr.1.2 with ⟨-,h0⟩ | ⟨G,cap,vy,rfl,-,-,-⟩
 ·cases h0
 ·exact⟨G,cap,lp,0,np,kd,nu,nm,ag,la,na,ca,lq,nq,cq,rfl,hr.1,hr.2 _ rfl,ha⟩
theorem zov(a b:Ti)(Ha:zek a)(Hb:zek b)(w:World)(F:Nat→Prop)(v v0:Value)(base R:Nat)(L:List RT)(hE:ExAt w F (Ti.sub a b).ex v)(hF : ∀k,F k→k<base)(hV:WrV w base R L v0)(hg:Gl w)(hB:6≤base)(hl:L.length+(Ti.sub a b).wT.length≤1000000) :
  Calls Tryz.prog 142 #[.pointer (some ⟨R,0,none⟩),v] w fun e w'=>e=.returned (.tuple #[])∧Wrote w v0 base R (L++(Ti.sub a b).wT) w':=by
 have bT : ∀w1,Calls Tryz.prog 204 #[v] w1 fun e w'=>e=.returned (.int .i64 2)∧Old w1 w':=zh5 (Ti.sub a b) w F v hE;rw [Ti.ex] at hE;obtain⟨G,cap,lp,np,cp,kd,nu,nm,ag,la,na,ca,lq,nq,cq,qI,j3,qh,j9,jR,jN,jD,uK,uV,uP,rfl,hr,hFG,ha,hb⟩:=zp0 hE;rw [Ti.wT] at hl ⊢;obtain⟨A,hA⟩ : ∃A,enc (decide (a.lv<2)) a.wT=A:=⟨_,rfl⟩;obtain⟨B,hB'⟩ : ∃B,enc (decide (b.lv<3)) b.wT=B:=⟨_,rfl⟩;have HA:=qya hA;have HBB:=qya hB';rw [hA,hB'] at hl ⊢;clear hA hB';have dq:L.length+(A.length+(B.length+1))≤1000000:=by simpa using hl
 have hl1:L.length+(A.length+1+B.length)≤1000000:=by omega
 obtain⟨w1,ju⟩ : ∃w1,w.alloc (.cells #[.int .i64 9,.int .i64 0,.string ⟨#[45]⟩,.string ⟨#[]⟩,.slice (some ⟨G,0,none⟩) 2 cap,.slice lp np cp] 32)=w1:=⟨_,rfl⟩;have kB:Blk w1 w.heap.size #[.int .i64 9,.int .i64 0,.string ⟨#[45]⟩,.string ⟨#[]⟩,.slice (some ⟨G,0,none⟩) 2 cap,.slice lp np cp] 32:=by rw [← ju];exact Blk.new _ _ _
 have O1:Old w w1:=by rw [← ju];exact (Old.refl w).alloc _
 have hRw:=hV.lt;have cm:=hV.own;have vS:=qya ju;have HL1:=qya (bT w1);obtain⟨p0,p1,p2,p3,p4,p5⟩:=BoxE.of kB;have HK:=qya (And.intro kB (And.intro hr (And.intro ha (And.intro hb (And.intro hV hg)))));clear ju bT kB hr ha hb hV hg hE
 go_enter Tryz.func142,Tryz.ntmps142
 go_wp2_with fail
 rw [vS.out]
 go_wp2_with fail
 (with_reducible refine HL1.out.mono ?_)
 rintro e w2 ⟨rfl,O2⟩;obtain⟨kB,hr,ha,hb,hV,hg⟩:=HK.out;have fH:=kB.keep O2 (fun e=>e);have vV:=O1.trans O2;have xr:=zaa hr vV (fun _ _ e=>e);have q0:w2.cell? ⟨G,0,none⟩=some (.int .i64 kd):=xr.cellAt 0 (by decide);have q1:w2.cell? ⟨G,1,none⟩=some (.int .i64 nu):=xr.cellAt 1 (by decide);have q2:w2.cell? ⟨G,2,none⟩=some (.string nm):=xr.cellAt 2 (by decide);have q3:w2.cell? ⟨G,3,none⟩=some (.string ag):=xr.cellAt 3 (by decide);have q4:w2.cell? ⟨G,4,none⟩=some (.slice la na ca):=xr.cellAt 4 (by decide);have q5:w2.cell? ⟨G,5,none⟩=some (.slice lq nq cq):=xr.cellAt 5 (by decide);obtain⟨r0,r1,r2,r3,r4,r5⟩:=BoxE.of fH;have dR:=hV.old vV;have xW:=hg.old vV;have hC:=zuo a Ha 2 w2 F _ v0 base R L (ha.keep vV (fun _ _ e=>e)) hF dR xW hB (by rw [HA.out];omega);rw [HA.out] at hC;have HC:=qya hC;have HK2:=qya (And.intro fH (And.intro xr (And.intro (hb.keep vV (fun _ _ e=>e)) (And.intro dR (And.intro xW vV)))));clear p0 p1 p2 p3 p4 p5 hC fH xr dR xW vV O2 kB hr ha hb hV hg
 go_wp2_with fail
 (with_reducible refine HC.out.mono ?_)
 rintro e w3 ⟨rfl,v1,yg,f3,o3⟩;obtain⟨kB,hr,hb,hV,hg,vV⟩:=HK2.out;clear q0 q1 q2 q3 q4 q5 r0 r1 r2 r3 r4 r5;have qY:=vV.size;have bV:=kB.lt;have kB3:=kB.keep f3 (fun e=>e.elim (fun e=>by omega) (fun e=>by have:=(cm _ e).2;omega));have hbG:G<base:=hF _ hFG;have rm:=zaa hr f3 (fun k hk e=>by cases hk;have:=hV.above _ e;exact absurd hbG (Nat.not_lt.2 this));have wv:=hb.keep f3 (fun k hk e=>by have:=hF k hk;have:=hV.above k e;omega);have vF:=hg.wrote hV hB f3;have xI:v1.ownBlock≠some w.heap.size:=fun e=>(o3 _ e).elim (fun e=>by have:=(cm _ e).2;omega) (fun e=>by omega);obtain⟨r0,r1,r2,r3,r4,r5⟩:=BoxE.of kB3;have nx:=znb [⟨#[45]⟩] (by intro u hu;cases hu with | head=>exact (by decide:(1:Nat)≤140737488355328) | tail _ h=>cases h) 1 rfl #[.string ⟨#[45]⟩] rfl w3 w3.heap.size rfl base R _ v1 vF hB yg (by simp only [qye,qyh];omega);have eE:=qya nx;have HK3:=qya (And.intro kB3 (And.intro rm (And.intro wv (And.intro yg (And.intro vF (And.intro xI (And.intro vV (And.intro f3 o3))))))));clear nx kB3 rm wv yg vF xI kB hr hb hV hg vV f3 o3
 go_wp2_with fail
 (with_reducible refine eE.out.mono ?_)
 rintro e w4 ⟨rfl,v2,mu,f4,o4⟩;obtain⟨kB,hr,hb,hV,hg,xI,vV,f3,o3⟩:=HK3.out;clear r0 r1 r2 r3 r4 r5;have kB4:=kB.keep f4 (fun e=>e.elim (fun e=>by omega) (fun e=>xI e));have lG:=zaa hr f4 (fun k hk e=>by cases hk;have:=hV.above _ e;exact absurd hbG (Nat.not_lt.2 this));have nj:=hb.keep f4 (fun k hk e=>by have:=hF k hk;have:=hV.above k e;omega);have gT:=hg.wrote hV hB f4;have q0:w4.cell? ⟨G,6,none⟩=some (.int .i64 qI):=lG.cellAt 6 (by decide);have q1:w4.cell? ⟨G,7,none⟩=some (.int .i64 j3):=lG.cellAt 7 (by decide);have q2:w4.cell? ⟨G,8,none⟩=some (.string qh):=lG.cellAt 8 (by decide);have q3:w4.cell? ⟨G,9,none⟩=some (.string j9):=lG.cellAt 9 (by decide);have q4:w4.cell? ⟨G,10,none⟩=some (.slice jR jN jD):=lG.cellAt 10 (by decide);have q5:w4.cell? ⟨G,11,none⟩=some (.slice uK uV uP):=lG.cellAt 11 (by decide);obtain⟨r0,r1,r2,r3,r4,r5⟩:=BoxE.of kB4;have hC4:=zuo b Hb 3 w4 F _ v2 base R _ nj hF mu gT hB (by rw [HBB.out];simp only [qye,List.length_map,qyh];omega);rw [HBB.out] at hC4;have HC4:=qya hC4;have HK4:=qya (And.intro vV (And.intro f3 (And.intro o3 (And.intro f4 o4))));clear hC4 kB4 lG nj mu gT kB hr hb hV hg vV f3 o3 f4 o4
 go_wp2_with fail
 (with_reducible refine HC4.out.mono ?_)
 rintro e w5 ⟨rfl,dS⟩;have HR:=qya dS;clear dS q0 q1 q2 q3 q4 q5 r0 r1 r2 r3 r4 r5;go_wp2
 go_end0
 obtain⟨vV,f3,o3,f4,o4⟩:=HK4.out;have:=Wrote.fore vV (Wrote.more f3 o3 (Wrote.more f4 o4 HR.out));have ug:L++A++[(⟨#[45]⟩:ByteArray)].map tk++B=L++(A++[tk ⟨#[45]⟩]++B):=by simp
 rw [ug] at this;exact⟨rfl,this⟩
end Go.Proofs.YtclgbmmambkiaaaGreatDoor

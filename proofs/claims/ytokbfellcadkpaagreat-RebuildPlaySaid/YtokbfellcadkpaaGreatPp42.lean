import Derived.Test.YtokbfellcadkpaaGreatPp41
set_option linter.unusedVariables false
set_option maxRecDepth 100000
set_option maxHeartbeats 9000000
namespace Go.Proofs.YtokbfellcadkpaaGreat
open Tryz
section
open Go.RowKit Go.Shelf
section
variable {At:jL}(api:jM At)(nap:jm)(iap:yn At)(cap:yY)(rapi:dY At)
include api nap iap cap rapi
namespace RbPlayW
theorem walk(W:World)(v0:Value)(l0:List Stp)(a1:Int)(G:Nat)(eh:QK W v0 l0)(eu:∀x∈l0,QJ x)(w1:(Lit.int .u64 a1).wf=true)(w2:G<18446744073709551616):Calls prog 3 #[v0,.int .u64 a1,.float .f64 G] W fun e w'=>e = .returned (.bool true)/\Below W.heap.size W w':=by
 obtain⟨C,rfl,hs⟩:=FZ w1;obtain⟨A0,o0,c0,rfl,-,ec⟩:=eh.form;have HC:=qQ ec;have aW:=qQ eu;obtain⟨n,hn⟩:∃n,n=l0.length:=⟨_,rfl⟩
 have HN:=qQ hn;rw[<-hn];have aA:=qQ (fun w=>qY5 api nap iap cap rapi w);clear eh ec eu hn w1;by_cases eJ:n>60
 ·as_aux_lemma =>
  have t1:(n:Int)>60:=by omega
  go_enter func3,ntmps3;go_wp2_with fail;refine(aA.out _).mono ?_;rintro e w3⟨rfl,av⟩;have aQ:=qQ av;clear av;go_wp2;go_ret;exact⟨rfl,aQ.out⟩
 ·have t1:¬(n:Int)>60:=by omega
  have eT:n<=60:=by omega
  have c4:=qQ (show Calls prog 7 #[.int .i64 1048576] W fun e w'=>∃g,e = .returned (.tuple #[ptr g,.int .i64 0])/\DS At W g (y9 1048576) [] w' from B9 api W 1048576 (by decide));have cv:=qQ (fun w g (h:DS At W g (y9 1048576) [] w)=>Dc api nap cap h (by decide));have c5:=qQ (fun w gd gl (h:bX At W gd gl dy (y9 1048576) [] w)=>qYT api rapi h hs w2);clear eJ;go_enter func3,ntmps3;go_wp2_with fail;refine c4.out.mono ?_;rintro e wa⟨gd,rfl,hD⟩;have H1:=qQ (cv.out wa gd hD);clear hD cv c4;go_wp2_with fail;refine H1.out.mono ?_;rintro e wb⟨a3,rfl,-,hl,-⟩;have H2:=qQ (c5.out wb gd a3 hl);clear hl c5 H1;go_wp2_with fail;refine H2.out.mono ?_;rintro e wc⟨d7,rfl,hi⟩;have HI:=qQ hi;clear hi H2;obtain⟨b,hb⟩:∃b,b=wc.heap.size:=⟨_,rfl⟩
  rw[<-hb]at HI;have HB:=qQ hb;clear hb;go_upto_region 9 with fail;rw[<-HB.out];generalize wc.alloc (.cells #[.slice none 0 0,.slice none 0 0,.int .i64 0,.int .i64 0,.int .u64 0,.slice none 0 0] 42)=V at*;clear HB;have al:=(Below.refl V.heap.size V).alloc (qK _) (.cells #[.int .i64 0,.int .i64 0,.int .i64 0,.int .i64 0] 43);have et:(V.alloc (.cells #[.int .i64 0,.int .i64 0,.int .i64 0,.int .i64 0] 43)).heap.size=V.heap.size+1:=by simp
  have eb:=al.alloc (by rw[et];exact Nat.le_succ _) (.cells cq 44);have af:=qQ (qY2 V)
  have aC:=qQ (HI.out.more api eb (B:=[V.heap.size,V.heap.size+1]) (fun x P=>by
   have eQ:((V.alloc (.cells #[.int .i64 0,.int .i64 0,.int .i64 0,.int .i64 0] 43)).alloc (.cells cq 44)).heap.size=V.heap.size+2:=(by simp);rw[eQ];rcases qL.1 P with e|P
   ·omega
   ·rw[qH.1 P];omega))
  obtain⟨a,aJ⟩:∃a,a=V.heap.size:=⟨_,rfl⟩
  obtain⟨d,ba⟩:∃d,d=V.heap.size+1:=⟨_,rfl⟩
  rw[<-ba,<-aJ]at af aC;have d3:=qQ (show W.heap.size<=a by rw[aJ];exact HI.out.base.size);have ck:=qQ aJ;have cn:=qQ ba;unfold cq at af aC;clear al et eb HI aJ ba;go_upto_region 11 with fail;rw[<-cn.out,<-ck.out];generalize (V.alloc (.cells #[.int .i64 0,.int .i64 0,.int .i64 0,.int .i64 0] 43)).alloc (.cells #[.string ⟨#[97]⟩,.string ⟨#[98]⟩,.string ⟨#[99]⟩,.string ⟨#[100]⟩] 44)=we at*;have co:Hid (gU At W gd a3 d7 b G C 0 false [a,d] we):=aC;clear aC ck cn;go_wp2_with fail;go_loopw [9,11,17,18] (fun g x la i wr=>∃(j gl gx:Nat) (K:Bool) (N:Nat->Nat),j<=n/\i = .int .i64 j/\g=ptr gl/\x=ptr gx/\la = .bool K/\gU At W gd gl gx b G C j K [a,d] wr/\bV a d N (4*j) wr) (fun _ _ _ i _=>n-(intOf i).toNat)
  case atStart=>exact⟨0,a3,d7,false,fun _=>0,qF _,rfl,rfl,rfl,rfl,co.out,af.out⟩
  case round =>
   obtain⟨j,gl,gx,K,N,hj,rfl,rfl,rfl,rfl,hP,hA⟩:=hrel;have HP:=qQ hP;have HA:=qQ hA;clear hP hA co af;by_cases eg:j<n
   ·have s1:(j:Int)<(n:Int):=(by omega);obtain⟨x,P⟩:∃x,l0[j]? = some x:=⟨_,qC (by rw[<-HN.out];exact eg)⟩
    obtain⟨bk,rfl,a8,d0,d1,d2⟩:=HC.out j x P;have er:=aW.out x (qM P);have aG:=HP.out.base;have q0:=(aG.cell (p:=⟨bk,o0+j*3,none⟩) a8).trans d0;have q1:=(aG.cell (p:=⟨bk,o0+j*3+1,none⟩) a8).trans d1;have q2:=(aG.cell (p:=⟨bk,o0+j*3+2,none⟩) a8).trans d2;have T:=qQ er;obtain⟨xk,xs,xm⟩:=x;simp only at q0 q1 q2;obtain⟨J,bi⟩:∃J,J=xk%8:=⟨_,rfl⟩
    have m1:(xk:Int).tmod 8=(J:Int):=(by rw[bi];rfl);have m2:(xk:Int)%8=(J:Int):=(by rw[bi];rfl);have al:=(Below.refl wr.heap.size wr).alloc (qK _) (.cells #[.int .u8 (xk:Nat),.int .u8 (xs:Nat),.int .u8 (xm:Nat)] 46);have B1:=jY.new wr 46 #[.int .u8 (xk:Nat),.int .u8 (xs:Nat),.int .u8 (xm:Nat)];have aE:=HP.out.more api al (B:=[wr.heap.size]) (fun y Y=>by rw[qH.1 Y];exact⟨qK _,B1.lt⟩);have a6:=HA.out.below al;obtain⟨wf,b0⟩:∃wf,wf=wr.alloc (.cells #[.int .u8 (xk:Nat),.int .u8 (xs:Nat),.int .u8 (xm:Nat)] 46):=⟨_,rfl⟩
    rw[<-b0]at aE B1 a6;have du:=qQ b0;obtain⟨z,a_⟩:∃z,z=wr.heap.size:=⟨_,rfl⟩
    rw[<-a_]at aE B1;have ci:=qQ a_;have R:Hid (gU At W gd gl gx b G C j K [z,a,d] wf):=qQ aE;have H:=qQ B1;have M:=qQ a6;clear P d0 d1 d2 aG er bi al B1 aE a6 b0 a_;go_upto_block 2 with fail;rw[<-ci.out,<-du.out];clear du ci HP HA q0 q1 q2;go_cut [9,10,11,12,13,17,20,21,22,23,24,25,26,27,28,29] from 70 to 237 (fun z9 eW eR eX eY eS eZ e0 ev e8 e9 e_ fa fb fc fd wx=>∃(ad ae:Nat) (aM:Bool) (o:Int) (a0:Nat->Nat),z9=ptr ad/\eR=ptr ae/\eS = .bool aM/\gG At W gd ad ae b G C (j+1) aM o [a,d] wx/\bV a d a0 (4*(j+1)) wx)
    case first =>
     have ab:j<60:=(by omega);have aD:Hid (∀y,y∈[a,d]->y∈[z,a,d]):=qQ fun y Y=>qE _ Y
     have ei:a∈[z,a,d]:=qE _ qD;have ej:d∈[z,a,d]:=qE _ (qE _ qD);have aa:=qQ (qU ei ej);have ag:Hid (∀(W2:World) (ad ae:Nat) (la:Bool) (o:Int),gG At W gd ad ae b G C (j+1) la o [z,a,d] W2->jV [z,a,d] wf W2->gG At W gd ad ae b G C (j+1) la o [a,d] W2/\bV a d N (4*(j+1)) W2):=qQ fun W2 ad ae la o h k=>⟨h.less aD.out,(M.out.kept k aa.out.1 aa.out.2).up (by omega)⟩
     clear ei ej HC HN aW aA;by_cases k4:J=4
     ·as_aux_lemma =>
      have e4:((J:Int)==4)=true:=(by rw[k4];rfl);have HF:=qQ (qYE api nap iap R.out ab w2);have c3:=qQ (fun w la o (h:gG At W gd gl gx b G C (j+1) la o [z,a,d] w)=>qYH api h);clear R H M T;cases K with
      | true =>
        go_wp2_with fail;refine HF.out.mono ?_;rintro e w2⟨rfl,o,O,Q⟩;have H2:=qQ (ag.out _ _ _ _ _ O Q);clear O Q HF;go_wp2;go_meet;exact⟨gl,gx,true,o,N,rfl,rfl,rfl,H2.out.1,H2.out.2⟩
      | false =>
        go_wp2_with fail;refine HF.out.mono ?_;rintro e w2⟨rfl,o,O,Q⟩;have cy:=qQ (c3.out _ _ _ O);have ao:=qQ Q;have aw:=fun u v x w=>qY3 o u v x w
        clear O Q HF c3;go_wp2_with fail;refine cy.out.mono ?_;rintro e w3⟨v1,v2,v3,rfl,h3,k3⟩;have Z:=qQ (ag.out _ _ _ _ _ h3 (ao.out.trans k3));clear h3 k3 cy;by_cases ek:0<o
        ·have a9:decide (0<o)=true:=qA ek;go_wp2;go_meet;refine⟨gl,gx,true,o,N,rfl,rfl,rfl, ?_,Z.out.2⟩;have:=Z.out.1;rw[a9]at this;exact this
        ·have a9:decide (0<o)=false:=qW ek;go_wp2;go_meet;refine⟨gl,gx,false,o,N,rfl,rfl,rfl, ?_,Z.out.2⟩;have:=Z.out.1;rw[a9]at this;exact this
     have e4:((J:Int)==4)=false:=qv.2 (by omega);by_cases k5:J=5
     ·as_aux_lemma =>
      have e5:((J:Int)==5)=true:=(by rw[k5];rfl);obtain⟨az,bm⟩:∃az,az=xm%5:=⟨_,rfl⟩
      have m3:(xm:Int).tmod 5=(az:Int):=(by rw[bm];rfl);have m4:(xm:Int)%5=(az:Int):=(by rw[bm];rfl);have HF:=qQ (qYF api nap iap R.out ab w2 az (by omega));have c2:=H.out.cell 2;have b5:=T.out.m;simp only at b5;clear R H M T bm;go_wp2_with fail;refine HF.out.mono ?_;rintro e w2⟨k,o,rfl,hk,O,Q⟩;have H2:=qQ (ag.out _ _ _ _ _ O Q);clear O Q HF c2;rcases hk with rfl|rfl
      all_goals
       go_wp2;go_meet;exact⟨gl,gx,K,o,N,rfl,rfl,rfl,H2.out.1,H2.out.2⟩
     have e5:((J:Int)==5)=false:=qv.2 (by omega);by_cases k6:J=6
     ·as_aux_lemma =>
      have e6:((J:Int)==6)=true:=(by rw[k6];rfl);have e7:((J:Int)==7)=false:=(by rw[k6];rfl);have cx:=qQ (qYL R.out ab);have aq:=qQ (Dp api nap cap cx.out ab (by omega));have au:=qQ (fun w g (h:Qr At W gd g b G C j 201 true K [z,a,d] w)=>Dr rapi h ab hs w2);have aR:=qQ (fun w (k:jV [z,a,d] wf w)=>(k.qa H.out qD).cell 0);have c0:=H.out.cell 0;clear R H M T;go_wp2_with fail;refine aq.out.mono ?_;rintro e w2⟨a4,rfl,O,Q⟩;have ar:=qQ (au.out _ _ O);have ao:=qQ Q;clear O Q aq au cx c0;go_wp2_with fail;refine ar.out.mono ?_;rintro e w3⟨a5,an,o,rfl,h3,k3,ea⟩;have ah:=ao.out.trans k3;have c0:=aR.out _ ah;have Z:=qQ (ag.out _ _ _ _ _ h3 ah);obtain rfl:=ea trivial;clear h3 k3 ah ar ea;cases K
      all_goals
       go_wp2;go_meet;exact⟨a4,a5,_,o,N,rfl,rfl,rfl,Z.out.1,Z.out.2⟩
     have e6:((J:Int)==6)=false:=qv.2 (by omega);by_cases k7:J=7
     ·as_aux_lemma =>
      have e7:((J:Int)==7)=true:=(by rw[k7];rfl);have dn:=qQ (qYM api nap R.out ab hs xs xm T.out.s T.out.m);have aq:=qQ (fun w (h:Qp At W gd b G C j 1 false K [z,a,d] w)=>Dp api nap cap h ab (by omega));have au:=qQ (fun w g (h:Qr At W gd g b G C j 201 false K [z,a,d] w)=>Dr rapi h ab hs w2);have aR:=qQ (fun w (k:jV [z,a,d] wf w)=>(k.qa H.out qD).cell 0);have c0:=H.out.cell 0;have c1:=H.out.cell 1;have c2:=H.out.cell 2;clear R H M T;go_wp2_with fail;refine dn.out.mono ?_;rintro e wg⟨rfl,hg,kg⟩;have cu:=qQ (aq.out _ hg);have eG:=qQ kg;clear hg kg dn aq c0 c1 c2;go_wp2_with fail;refine cu.out.mono ?_;rintro e w2⟨a4,rfl,O,Q⟩;have ar:=qQ (au.out _ _ O);have ao:=qQ (eG.out.trans Q);clear O Q cu au;go_wp2_with fail;refine ar.out.mono ?_;rintro e w3⟨a5,an,o,rfl,h3,k3,-⟩;have ah:=ao.out.trans k3;have c0:=aR.out _ ah;have Z:=qQ (ag.out _ _ _ _ _ h3 ah);clear h3 k3 ah ar;cases an
      all_goals
       go_wp2;go_meet;exact⟨a4,a5,_,o,N,rfl,rfl,rfl,Z.out.1,Z.out.2⟩
     have e7:((J:Int)==7)=false:=qv.2 (by omega)
     as_aux_lemma =>
     obtain⟨l,bb⟩:∃l,l=xs%4:=⟨_,rfl⟩
     obtain⟨mm,bp⟩:∃mm,mm=xm%4:=⟨_,rfl⟩
     have ax:l<4:=(by omega);have eM:mm<4:=(by omega);have m3:(xs:Int).tmod 4=(l:Int):=(by rw[bb];rfl);have m4:(xs:Int)%4=(l:Int):=(by rw[bb];rfl);have m5:(xm:Int).tmod 4=(mm:Int):=(by rw[bp];rfl);have m6:(xm:Int)%4=(mm:Int):=(by rw[bp];rfl);obtain⟨nm,aK⟩:∃nm,nm=mm+1:=⟨_,rfl⟩
     obtain⟨s,bv⟩:∃s,s=abS l:=⟨_,rfl⟩
     obtain⟨f,aw⟩:∃f,f=N l:=⟨_,rfl⟩
     have aL:s.size=1:=(by rw[bv];rfl);have eK:f<=4*j:=(by rw[aw];exact M.out.le l);have c1:=H.out.cell 1;have es:wf.cell? ⟨d,l,none⟩=some (.string s):=(by rw[bv];exact Dv M.out.s ax);have ef:wf.cell? ⟨a,l,none⟩=some (.int .i64 (f:Nat)):=(by rw[aw];exact Dt M.out.f ax);have a7:=(Below.refl wf.heap.size wf).alloc (qK _) (.cells #[.string ⟨#[]⟩,.int .i64 0,.slice none 0 0] 53);have eI:=(a7.cell (p:=⟨d,l,none⟩) M.out.s.lt).trans es;have eH:=(a7.cell (p:=⟨a,l,none⟩) M.out.f.lt).trans ef;have t4:(l:Int)<4:=(by omega);have t0:¬(l:Int)<0:=(by omega);have cc:=qQ (cz.start wf s f);have aV:=qQ (fun W2 (h:Below wf.heap.size wf W2)=>(H.out.below h).cell 2);have ak:=qQ (qU aK (qU eM ax));have aZ:=qQ (qU aL eK);have eE:=qQ aw;have d5:=qQ T.out.m;have eP:=T.out.s;have b5:=T.out.m;simp only at eP b5;clear a7 bb bp bv aw T aK;go_upto_region 18 with fail;go_cut [22] from 87 to 107 (fun ev wx=>∃I,ev=ptr I/\cz wf I s f 0 none 0 wx)
     case first =>
      clear aa ag R H M aV ak aZ d5 aD;go_region
      go_step;go_step;go_meet;exact⟨_,rfl,cc.out.drew⟩
     case rest =>
      obtain⟨I,rfl,U⟩:=hcut;have aU:=qQ U;clear U cc es ef eI eH c1;go_wp2_with fail;go_loopw [23] (fun i wr=>∃(m:Nat) (A:Option Addr) (c:Nat),m<=nm/\i = .int .i64 m/\cz wf I s f m A c wr) (fun i _=>nm-(intOf i).toNat)
      case atStart=>exact⟨0,none,0,qF _,rfl,aU.out⟩
      case round =>
       obtain⟨m,A,c,hm,rfl,U⟩:=hrel;have c2:=aV.out _ U.xG;have g2:=U.box.cell 2;have am:=qQ U;have aK:=ak.out.1;by_cases eO:m<nm
       ·have s2:(m:Int)<=(mm:Int):=(by omega);obtain⟨w5,A',c',e1,e2,e3,d6⟩:=U.more (by have:=ak.out.2.1;omega) 51;have eB:=qQ e1;have eD:=qQ d6;clear U e1 d6 aU;go_wp2_with (first | (at_builtin;refine yI rfl _ _ rfl rfl rfl eB.out ?_) | fail);go_roundw
        case rel=>exact⟨m+1,A',c',by omega,by go_num,eD.out⟩
        case measure=>simp[intOf];omega
       ·obtain rfl:m=nm:=(by omega);have s2:¬(m:Int)<=(mm:Int):=(by omega);have eL:=ak.out.2.1;have aL:=aZ.out;have ax:=ak.out.2.2;have ap:=qQ (qU ax aL);obtain⟨b1,b2,b3⟩:=KQ (s:=s) (f:=f) (n:=m) (by omega) (by omega) (by omega) (by omega) (by omega) C 0;have aS:=qQ (fun q=>(KQ (s:=s) (f:=f) (n:=m) (by omega) (by omega) (by omega) (by omega) (by omega) C q).2.1);have c_:=qQ (Db (s:=s) (f:=f) (n:=m) (by omega) (by omega) (by omega) (by omega) (by omega) U.zf);have b_:=qQ (fun w8 (h:gU At W gd gl gx b G C j K ([I]++[z,a,d]) w8)=>qYN api nap cap h ab (nA s f m) b3 b1);have aT:=qQ (fun q w8=>GV C s (f:Int) A m c ((q:Nat):Int) w8 hs (by unfold maxLen;omega) ⟨by omega,by omega⟩ (by omega));have g0:=U.box.cell 0;have g1:=U.box.cell 1;have eN:m<=4:=(by omega);clear U eO b1 b2 b3 aU aL eL aK;generalize nA s f m=p at*;go_wp2_with fail;refine c_.out.mono ?_;rintro e w6⟨rfl,b6⟩;have aF:=bj am.out.xG b6;have ee:I<w6.heap.size:=qR am.out.box.lt b6.size;have c6:=R.out.more api aF (B:=[I]) (fun y Y=>by rw[qH.1 Y];exact⟨am.out.new,ee⟩);have aN:=qQ (M.out.below aF);have ce:=qQ (am.out.box.below b6);have ey:=qQ (H.out.below aF);have b8:=qQ (b_.out w6 c6);clear b6 aF ee c6 c_ b_ am M H R g0 g1 g2 c2 s2;go_wp2_with fail;refine b8.out.mono ?_;rintro e w7⟨q,hq,rfl,h7,ay⟩;have c7:=qQ h7;have ac:=qQ (aN.out.kept ay (qE _ aa.out.1) (qE _ aa.out.2));have aB:=qQ (ay.qa ce.out qD);have eF:=qQ ay;obtain⟨X,ed⟩:∃X,X=f+m:=⟨_,rfl⟩
        have eC:=qQ ed;have ew:IntKind.i64.wrap ((f:Int)+(m:Int))=(X:Int):=(by rw[IntKind.wrap_i64];have:=ap.out.2.2;omega);have r1:w7.cell? ⟨a,l,none⟩=some (.int .i64 (f:Nat)):=(ay.qa aN.out.f (qE _ aa.out.1)) |> fun h=>by rw[eE.out];exact Dt h ap.out.1
        have r2:w7.frozen? ⟨a,l,none⟩=false:=ac.out.f.frozen l;have r3:=aB.out.cell 2
        have da:=qQ (show bK At W gd gl gx b G C (j+1) q p 0 0 K ([I]++[z,a,d]) (w7.setCell ⟨a,l,none⟩ (.int .i64 (X:Nat))).drew/\bV a d (nB N l X) (4*(j+1)) (w7.setCell ⟨a,l,none⟩ (.int .i64 (X:Nat))).drew/\jY (w7.setCell ⟨a,l,none⟩ (.int .i64 (X:Nat))).drew I 53 #[.string s,.int .i64 (f:Nat),.slice A m c] from
         ⟨c7.out.xJ api (jG.setCell (F:=[a]) (jG.refl _ _) (qX qD) _).drew (fun x P=>by rw[qH.1 P];exact⟨qE _ aa.out.1,d3.out⟩),
          ⟨(qY0 ac.out.f ap.out.1 X).drew,(ac.out.s.qo (p:=⟨a,l,none⟩) (jY.xP ac.out.s ac.out.f (by decide)) _).drew,qY1 ac.out.le (by have:=ap.out.2.2;omega) (by omega)⟩,
          (aB.out.qo (p:=⟨a,l,none⟩) (jY.xP aB.out ac.out.f (by decide)) _).drew⟩)
        clear h7 ay ed aN ce ey b8 ac aB c7;go_upto_region 27 with fail;go_cut [] from 125 to 137 (fun wx=>bK At W gd gl gx b G C (j+1) q p 0 0 K ([I]++[z,a,d]) wx/\bV a d (nB N l X) (4*(j+1)) wx/\jY wx I 53 #[.string s,.int .i64 (f:Nat),.slice A m c])
        case first =>
         clear aa ag aV ak aZ d5 aD aS aT ap eF d3 eC;go_region
         go_step;go_step;go_meet;exact da.out
        case rest =>
         obtain⟨el,d_,aI⟩:=hcut;obtain⟨w8,rfl⟩:∃w8:World,w8=wc:=⟨_,rfl⟩
         have c8:=qQ el;have b7:=qQ d_;have g0:=aI.cell 0;have g1:=aI.cell 1;have g2:=aI.cell 2;have ai:=aT.out q w8;unfold yd at ai;rw[rW]at ai;have ai:=qQ ai;clear el d_ aI r1 r2 r3 ew da aT;go_wp2_with fail;refine ai.out.mono ?_;rintro e w9⟨A9,c9,rfl,r9,b9⟩;obtain⟨es,aH⟩:∃es,es=br C s (f:Int) m ((q:Nat):Int):=⟨_,rfl⟩
         have aj:=qQ (show kV C (q,p)=es/\es.length=m from⟨by rw[aH];exact aS.out q,by rw[aH];exact rW _ _ _ _ _⟩);rw[<-aH]at r9;have aX:=qQ (c8.out.more api b9 (B:=jF (.slice A9 m c9)) (fun y Y=>r9.lt y (kG.1 Y)));have aO:=qQ (b7.out.below b9);have aY:=qQ r9;have cR:Hid (a∈jF (.slice A9 m c9)++([I]++[z,a,d])/\d∈jF (.slice A9 m c9)++([I]++[z,a,d])):=qQ ⟨qJ _ (qE _ aa.out.1),qJ _ (qE _ aa.out.2)⟩;clear aH r9 b9 c8 b7 g0 g1 g2 ai aS;go_wp2_with fail;go_loopw [29] (fun i wr=>∃t:Nat,t<=m/\i = .int .i64 t/\bK At W gd gl gx b G C (j+1) q p t t K (jF (.slice A9 m c9)++([I]++[z,a,d])) wr/\jE wr w8.heap.size (.slice A9 m c9) es/\bV a d (nB N l X) (4*(j+1)) wr) (fun i _=>m-(intOf i).toNat)
         case atStart=>exact⟨0,qF _,rfl,aX.out,aY.out,aO.out⟩
         case round =>
          obtain⟨t,ht,rfl,hp,hr,ha⟩:=hrel;by_cases eq:t<m
          ·have s3:(t:Int)<(m:Int):=(by omega);obtain⟨x,P⟩:∃x,es[t]? = some x:=⟨_,qC (by rw[aj.out.2];exact eq)⟩
           have b4:(kV C (q,p))[t]? = some x:=(by rw[aj.out.1];exact P);obtain⟨ob,off,rfl,-,-,y0,y1,y2⟩:=oG (jE.xQ hr) P;have db:=qQ (qYO api hp (by omega) (by omega) b4);have dp:=qQ (fun w (h:bK At W gd gl gx b G C (j+1) q p t (t+1) K (jF (.slice (some ⟨ob,off,none⟩) m c9)++([I]++[z,a,d])) w)=>qYP api h (by omega) b4);have ca:=qQ (fun w (k:jV (jF (.slice (some ⟨ob,off,none⟩) m c9)++([I]++[z,a,d])) wr w)=>k.row hr (fun y Y=>qG _ Y));have eA:=qQ (fun w (k:jV (jF (.slice (some ⟨ob,off,none⟩) m c9)++([I]++[z,a,d])) wr w)=>ha.kept k cR.out.1 cR.out.2);have HX:=qQ P;obtain⟨yh,yv,yp⟩:=x;simp only at y0 y1 y2;clear hp hr ha P b4 aX aY aO;go_wp2_with fail;refine db.out.mono ?_;rintro e wA⟨rfl,em,kA⟩;obtain⟨eU,eV,eo,-,-,z0,z1,z2⟩:=oG (jE.xQ (ca.out _ kA)) HX.out;obtain⟨rfl,rfl,-⟩:=Addr.mk.inj (qg eo);simp only at z0 z1 z2;have d4:=qQ (dp.out _ em);have cp:=qQ kA;clear em kA db dp eo y0 y1 y2;go_wp2_with fail;refine d4.out.mono ?_;rintro e wB⟨rfl,en,kB⟩;have aP:=qQ (qU en (qU (ca.out _ (cp.out.trans kB)) (eA.out _ (cp.out.trans kB))));clear en kB d4 z0 z1 z2;go_wp2;go_roundw
           case rel=>exact⟨t+1,by omega,by go_num,aP.out.1,aP.out.2.1,aP.out.2.2⟩
           case measure=>simp[intOf];omega
          ·obtain rfl:t=m:=(by omega);have s3:¬(t:Int)<(t:Int):=(by omega);obtain⟨o,ep⟩:=qYR hp (by rw[aj.out.1,aj.out.2];exact qK _) (by rw[aj.out.1,aj.out.2];exact qK _) eN;have cb:=qQ (qU (ep.less (fun y Y=>qJ _ (qE _ (aD.out y Y))):gG At W gd gl gx b G C (j+1) K o [a,d] wr) ha);clear hp hr ha ep eq aX aY aO;go_wp2;go_meet;exact⟨gl,gx,K,o,nB N l X,rfl,rfl,rfl,cb.out.1,cb.out.2⟩
    case rest =>
     as_aux_lemma =>
     obtain⟨ad,ae,aM,o,a0,rfl,rfl,rfl,d9,d8⟩:=hcut;have dl:=qQ (qYI api nap d9 (by omega) hs);have af:=qQ d8;clear d9 d8 HC HN aW aA R H M T;go_wp2_with fail;refine dl.out.mono ?_;rintro e w5⟨rfl,h5,k5⟩;have H5:=qQ h5;have ex:=qQ (af.out.kept k5 qD (qE _ qD));clear h5 k5 dl af;go_wp2;go_roundw
     case rel=>exact⟨j+1,ad,ae,aM,a0,by omega,by go_num,rfl,rfl,rfl,H5.out,ex.out⟩
     case measure=>simp[intOf];omega
   ·as_aux_lemma =>
    obtain rfl:j=n:=(by omega);have s1:¬(j:Int)<(j:Int):=(by omega);have ez:=qQ HP.out.base;have HE:=qQ (aA.out wr);clear eg HC HP HA;go_wp2_with fail;refine HE.out.mono ?_;rintro e w3⟨rfl,av⟩;have aQ:=qQ (bj ez.out av);clear av;go_wp2;go_ret;exact⟨rfl,aQ.out⟩
end RbPlayW
end
section
variable {At:jL}(api:jM At){w0 w w':World}{gd gl gx r:Nat}{S S':IxS}{L:jN}{chs:List (List Tw)}{D D':jK}{E E' B:List Nat}
theorem gV.xJ(api:jM At)(h:gV At w0 gd gl gx r S L chs D E w)(g:jG B w w')(c:∀b∈B,b∈E/\w0.heap.size<=b)(f:∀b∈E',b∈E∨(w.heap.size<=b/\b<w'.heap.size)):gV At w0 gd gl gx r S L chs D E' w':=by
 have j:=h.ix.lt gl qD;have i:gl ∉ B:=fun d=>h.qo (c gl d).1
 refine⟨h.ix.xJ api g (fun b a=>⟨qE _ (c b a).1,(c b a).2⟩) (fun b a=>?_),h.log.qe g i,fun d=>?_,h.low,h.ok,h.fl,h.xX,h.gl⟩
 ·rcases qL.1 a with e|k
  ·rw[e];exact qX qD
  ·exact(f b k).imp (qE _) id
 ·rcases f gl d with k|k
  ·exact h.qo k
  ·omega
theorem gV.more(api:jM At)(h:gV At w0 gd gl gx r S L chs D E w)(a:Below w.heap.size w w')(c:∀b∈B,w.heap.size<=b/\b<w'.heap.size):gV At w0 gd gl gx r S L chs D (B++E) w' :=
 h.xJ api (B:=[]) (jG.qn a) (fun b a=>by cases a) (fun b a=>(qB.1 a).elim (fun k=>qY (c b k)) qX)
theorem qY6(h:kM At w0 gd gl L chs D E w):Calls prog 38 #[ptr gl] w fun e w'=>e = .returned (.int .i64 (kC chs:Nat))/\w=w':=by
 have:=Uc (v:=((kC chs:Nat):Int)) (h.st.2.1.cell 0) (by rw[<-h.gl.endp];exact h.st.2.1.cell 4);exact this
theorem Da(api:jM At)(nap:jm)(h:bX At w0 gd gl L D E w)(ok:WfP D)(g:D.count<=1000000000)(f:L.chunks<=200):
  Calls prog 28 #[ptr gl,.int .i64 (-1)] w fun e w'=>∃k:Nat,k≠1/\e = .returned (.tuple #[.string ByteArray.empty,.int .i64 (k:Nat)])/\bX At w0 gd gl L D E w'/\jV E w w':=by
 have a:∃k:Nat,k≠1/\tV D L (-1)=(ByteArray.empty,k,D):=by
  unfold tV;by_cases q:vq D L≠0
  ·rw[qV q];refine⟨vq D L, ?_,rfl⟩;unfold vq;split
   ·decide
   ·split<;>decide
  ·rw[qZ q,qV (qX (by decide))];exact⟨4,by decide,rfl⟩
 obtain⟨k,i,a⟩:=a;refine(h.call api (v:=.tuple #[.string ByteArray.empty,.int .i64 (k:Nat)]) (D':=D) (L':=L) (fun c j d=>?_)).mono ?_
 ·have:=qZS api nap j d ok g (-1) (by decide) f;rw[a]at this;exact this
 ·rintro e w'⟨rfl,b,l⟩;exact⟨k,i,rfl,b,l⟩
def KK(At:jL)(w0:World)(gd gl r seed:Nat)(L:jN)(chs:List (List Tw))(D:jK)(E:List Nat)(w:World)(e:Ending)(w':World):Prop :=
 (∃gx T j,e = .returned (.tuple #[ptr gx,.bool true])/\vW D=0/\(jb D).seed=seed/\(jb D).check<=(kC chs:Nat)/\T.map (fun t=>(t.n:Int))=(jb D).lv.flatten/\(∀t∈T,vO D t.n t.l)/\j<=81/\gV At w0 gd gl gx r ⟨jb D,T,[]⟩ L chs { D with count:=D.count+j } E w'/\jV E w w') ∨
 (∃j,e = .returned (.tuple #[.pointer none,.bool false])/\(vW D≠0∨(jb D).seed≠seed∨((kC chs:Nat):Int)<(jb D).check∨∃x∈(jb D).lv.flatten,jo D x≠0)/\j<=81/\kM At w0 gd gl L chs { D with count:=D.count+j } E w'/\jV E w w')
theorem De(api:jM At)(nap:jm)(iap:yn At)(h:kM At w0 gd gl L chs D E w)(am:D.count<=810000000)(af:vW D=0->jw (jb D)/\∀x∈(jb D).lv.flatten,jo D x=0->(tgL (rdW D (ptT x)).1).length<=10000)(seed r:Nat):
  Calls prog 29 #[ptr gd,ptr gl,.int .u64 (seed:Nat),.float .f64 r] w (KK At w0 gd gl r seed L chs D E w):=by
 have hd:=h.fl.up.down;have u:=qVL iap h (by omega);unfold jr at u;have u:=qQ u;have O:=qQ af;have Q:=qQ (fun(j:Nat) (x:Int)=>qU (Jw hd (ks.count D (D.count+j)) x) (Qf hd (ks.count D (D.count+j)) (ptT x)).1);have V:=qQ (fun gx T j e w' (q:e = .returned (.tuple #[ptr gx,.bool true])/\vW D=0/\(jb D).seed=seed/\(jb D).check<=(kC chs:Nat)/\T.map (fun t:TbS=>(t.n:Int))=(jb D).lv.flatten/\(∀t∈T,vO D t.n t.l)/\j<=81/\gV At w0 gd gl gx r ⟨jb D,T,[]⟩ L chs { D with count:=D.count+j } E w'/\jV E w w')=>(show KK At w0 gd gl r seed L chs D E w e w' from qX ⟨gx,T,j,q⟩));have p:=qQ (fun j e w' (q:e = .returned (.tuple #[.pointer none,.bool false])/\(vW D≠0∨(jb D).seed≠seed∨((kC chs:Nat):Int)<(jb D).check∨∃x∈(jb D).lv.flatten,jo D x≠0)/\j<=81/\kM At w0 gd gl L chs { D with count:=D.count+j } E w'/\jV E w w')=>(show KK At w0 gd gl r seed L chs D E w e w' from qY ⟨j,q⟩));have M:=qQ (fun(j:Nat) W (q:kM At w0 gd gl L chs { D with count:=D.count+j } E W)=>qY6 q);clear h af hd;generalize vW D=H at*;generalize jb D=lm at*;obtain⟨J,o,g,R⟩:=lm;simp only at O V p;have ah:∃v,v=kC chs:=⟨_,rfl⟩
 obtain⟨v,ae⟩:=ah;rw[<-ae]at V p M;clear ae;go_enter func29,ntmps29;go_wp2_with fail;refine u.out.mono ?_;rintro e f⟨y0,y1,y2,A,n,c,R',j,rfl,hM,hn,hv,al,an,ak,hj,h1,k1⟩;obtain⟨rfl,rfl,rfl,rfl⟩:=j5.mk.inj hM;subst hn;have G:=(Below.refl f.heap.size f).alloc (qK _) (.cells #[.int .i64 J,.int .i64 o,.int .u64 (g:Nat),.slice A R.length c] 40);have i:=jY.new f 40 #[.int .i64 J,.int .i64 o,.int .u64 (g:Nat),.slice A R.length c];have F:=h1.below api G;have k2:=k1.trans (jV.qn G (fun x d=>h1.lt x (qE _ d)));have ac:=hv.below G (qK _);obtain⟨a,aj⟩:∃a,f.alloc (.cells #[.int .i64 J,.int .i64 o,.int .u64 (g:Nat),.slice A R.length c] 40)=a:=⟨_,rfl⟩
 rw[aj]at F k2 i ac;have z0:=i.cell 0;have z1:=i.cell 1;have z2:=i.cell 2;have z3:=i.cell 3;have s:=qQ (qU F (qU k2 (qU ac i)));have K:=qQ (fun k=>(M.out j (a.drewN k) (F.below api (vo (Below.refl _ _) k))).mono fun _ _ q=>qU q.1 q.2.symm);clear F k2 G h1 k1 u hv ac i M hM;have b:Hid (∀(nq:Nat),kM At w0 gd gl L chs { D with count:=D.count+j } E (a.drewN nq)/\jV E w (a.drewN nq)):=qQ fun nq=>⟨s.out.1.below api (vo (Below.refl _ _) nq),s.out.2.1.trans (jV.qn (vo (Below.refl _ _) nq) (fun x d=>s.out.1.lt x (qE _ d)))⟩
 by_cases c1:H=0
 case neg =>
  have C:¬(H:Int)=0:=by omega
  have q1:((H:Int)==0)=false:=qv.2 C;have q2:((H:Int) != 0)=true:=by rw[bne,q1];rfl
  go_wp2;go_quiet (fail);go_wp2;go_ret2;exact p.out j _ _ ⟨rfl,qX c1,by omega,(b.out _).1,(b.out _).2⟩
 subst c1;by_cases c2:g=seed
 case neg =>
  have C:¬(g:Int)=(seed:Int):=by omega
  have q1:((g:Int)==(seed:Int))=false:=qv.2 C;have q2:((g:Int) != (seed:Int))=true:=by rw[bne,q1];rfl
  go_wp2;go_quiet (fail);go_wp2;go_ret2;exact p.out j _ _ ⟨rfl,qY (qX c2),by omega,(b.out _).1,(b.out _).2⟩
 subst c2;by_cases X:(v:Int)<o
 case pos =>
  have C:decide ((v:Int)<o)=true:=qA X;go_wp2;go_quiet ((go_at_call 38;exact Calls.quiet_of_same (K.out _)));go_wp2;go_ret2;exact p.out j _ _ ⟨rfl,qY (qY (qX X)),by omega,(b.out _).1,(b.out _).2⟩
 have C:decide ((v:Int)<o)=false:=qW X;obtain⟨m1,m2⟩:=O.out rfl;have U:=qQ (fun(W:World) (hW:kM At w0 gd gl L chs { D with count:=D.count+j } E W) (hV:jn W (.slice A R.length c) R)=>DP api nap hW (by show D.count+j<=_;omega) m1 ak hV (fun x d h0=>by rw[(Q.out j x).2];exact m2 x d (by rw[<-(Q.out j x).1];exact h0)) r);unfold jr at U;clear m1 m2 O;go_wp2;go_quiet ((go_at_call 38;exact Calls.quiet_of_same (K.out _)));rename_i nq _;have ao:(a.drewN nq).cell? ⟨f.heap.size,0,none⟩=some (.int .i64 J):=z0;have ap:(a.drewN nq).cell? ⟨f.heap.size,1,none⟩=some (.int .i64 o):=z1;have aq:(a.drewN nq).cell? ⟨f.heap.size,2,none⟩=some (.int .u64 (g:Nat)):=z2;have ar:(a.drewN nq).cell? ⟨f.heap.size,3,none⟩=some (.slice A R.length c):=z3;have P:=qQ (U.out _ (b.out nq).1 (s.out.2.2.1.below (vo (Below.refl _ _) nq) (qK _)));have ad:=qQ (b.out nq).2;clear z0 z1 z2 z3 b U s K;generalize a.drewN nq=wq at*;go_wp2_with fail;refine P.out.mono ?_;rintro e w4 (⟨gx,T,m,rfl,hT,hH,ai,y,z⟩|⟨x,m,d,aa,ai,rfl,y,z⟩)
 ·have N:=qQ (qU hT (qU hH (qU y z)));clear hT hH y z P;go_wp2;go_ret2;obtain⟨Y,Z,f3,f4⟩:=N.out;refine V.out gx T (j+m) _ _ ⟨rfl,trivial,trivial,by omega,Y,Z,by omega, ?_,ad.out.trans f4⟩;rw[show D.count+(j+m)=D.count+j+m by omega];exact f3
 ·have ab:=aa;rw[(Q.out j x).1]at ab;have N:=qQ (qU d (qU ab (qU y z)));obtain⟨I,ag⟩:∃I,I=jo { D with count:=D.count+j } x:=⟨_,rfl⟩
  rw[<-ag]at aa ⊢;have q5:¬(I:Int)=0:=by omega
  have q6:((I:Int)==0)=false:=qv.2 q5;clear d aa ab y z P ag;go_wp2;go_ret2;obtain⟨Y,Z,f3,f4⟩:=N.out;refine p.out (j+m) _ _ ⟨rfl,qY (qY (qY ⟨x,Y,Z⟩)),by omega, ?_,ad.out.trans f4⟩;rw[show D.count+(j+m)=D.count+j+m by omega];exact f3
theorem qY7(api:jM At)(nap:jm)(h:kM At w0 gd gl L chs D E w)(U:D.count<=850000000)(seed r:Nat)(O:seed<18446744073709551616):
  Calls prog 30 #[ptr gd,.int .u64 (seed:Nat),.float .f64 r] w fun e w'=>∃gx D',e = .returned (.tuple #[ptr gx,.int .i64 0])/\gV At w0 gd gl gx r ⟨cJ seed,[],[]⟩ L chs D' E w'/\jV E w w'/\D'.qp=D.qp/\D'.cap=D.cap/\D'.count<=D.count+80/\jA D'.l<=jA D.l/\jW D'.l jC=none:=by
 have m:Hid (Calls prog 54 #[ptr gd,.string ⟨#[109,97,112]⟩] w _):=qQ (qVM api h jC Qb (by decide))
 have s:=qQ (fun(D':jK) (W:World) (Q:D'.count=D.count) (M:kM At w0 gd gl L chs D' E W)=>(show Calls prog 87 #[ptr gd,.agg #[.int .i64 0,.int .i64 0,.int .u64 (seed:Nat),.slice none 0 0],.float .f64 r] W _ from
  DP api nap (n:=0) (c:=0) (d:=seed) (A:=none) (cp:=0) (R:=[]) M (by omega) (qV6 seed) O (jn.nil W none 0) (fun x i=>by cases i) r))
 clear h;go_enter func30,ntmps30;go_wp2_with fail;refine m.out.mono ?_;rintro e P⟨f,a,rfl,g,t,F,k,C,z,-⟩;have y:jW a.l jC=none:=nG fun q=>((z jC).1 q).2 rfl
 have p:=qQ (s.out a P k.count t);have H:=qQ (qU F (qU k (qU C y)))
 have N:f=0∨f=4:=by
  unfold cD at g;simpa using g
 clear t F k C z y g m s;rcases N with rfl|rfl
 all_goals
  go_wp2_with fail;refine p.out.mono ?_;rintro e X (⟨gx,T,j,rfl,v,-,V,u,G⟩|⟨x,j,i,-⟩);rotate_left
  ·cases i
  obtain rfl:T=[]:=List.map_eq_nil_iff.1 v;have o:=qQ (qU u G);clear u G v p;go_wp2;go_ret2;obtain⟨I,b,J,K⟩:=H.out;exact⟨gx,_,rfl,o.out.1,I.trans o.out.2,b.qp,b.cap,by show a.count+j<=_;have:=b.count;omega,J,K⟩
end
section
variable {At:jL}(api:jM At)(nap:jm)(cap:yY){w0 w:World}{gd gl gx r seed:Nat}{S:IxS}{L:jN}{chs:List (List Tw)}{D:jK}{E:List Nat}
include api nap cap
theorem qY8(h:jy At w0 gd gl gx r S L chs D E w)(a:D.count<=900000000)(pos:Nat)(g:pos<=2147483647)(b:(jO 0 chs).find? (fun x=>decide (pos<=x.1))=none):
  Calls prog 90 #[ptr gl,.int .i64 (pos:Nat)] w fun e w'=>e = .returned (.tuple #[.string ByteArray.empty,.int .i64 0,.int .i64 0,.int .i64 4])/\∃k,k<=D.count+200/\jy At w0 gd gl gx r S L chs { D with count:=k } E w'/\jV E w w':=by
 refine(DO api nap cap h a pos (by omega)).mono ?_;rintro e w'⟨k,c,rfl,d,f⟩;rw[b];exact⟨rfl,k,c,d,f⟩
theorem qY9(h:jy At w0 gd gl gx r S L chs D E w)(a:D.count<=900000000)(pos:Nat)(g:pos<=2147483647){q:Nat}{p:Tw}(b:(jO 0 chs).find? (fun x=>decide (pos<=x.1))=some (q,p)):
  Calls prog 90 #[ptr gl,.int .i64 (pos:Nat)] w fun e w'=>e = .returned (.tuple #[.string p,.int .i64 (q:Nat),.int .i64 (vy (q,p):Nat),.int .i64 0])/\∃k,k<=D.count+200/\jy At w0 gd gl gx r S L chs { D with count:=k } E w'/\jV E w w':=by
 refine(DO api nap cap h a pos (by omega)).mono ?_;rintro e w'⟨k,c,rfl,d,f⟩;rw[b];exact⟨rfl,k,c,d,f⟩
omit api nap cap in
theorem qYq{D:jK}(g:kx D chs){x:Rec}(b:x∈jO 0 chs):vy x<=900000:=by
 have d:=((oR chs 0 (fun c a=>(g.small c a).1)).2 x b).2;have:=g.many;omega
theorem qYx(h:jy At w0 gd gl gx r S L chs D E w)(ao:S.mem=[])(f:Nat)(aE:f<=900000)(n:Int)(A:Option Addr)(k cp:Nat)(hs:seed<18446744073709551616)(hw:∀x∈jO 0 chs,kr x.2=true)(an:(vu seed (jO 0 chs)).length<=1000)(aL:D.count<=850000000):
  Calls prog 32 #[ptr gx,ptr gl,.agg #[.int .i64 n,.int .i64 (f:Nat),.int .u64 (seed:Nat),.slice A k cp]] w fun e w'=>e = .returned (.int .i64 0)/\∃S' c',jy At w0 gd gl gx r S' L chs { D with count:=c' } E w'/\jV E w w'/\S'.m=S.m/\S'.T=S.T /\
   (∀y,y∈S'.mem↔∃x∈jO 0 chs,(f:Int)<=(x.1:Int)/\y∈kV seed x)/\c'<=D.count+200*((jO 0 chs).length+1):=by
 have g:=h.xX
 have H:(jO 0 chs).length<=200000:=by
  have v:=(oR chs 0 (fun U P=>(g.small U P).1))
  have j:=BJ chs (fun U P=>(g.small U P).1);have M:=sV g
  have h4:∀(l:List Rec) (a:Nat),mr l->(∀x∈l,a<=x.1)->(∀x∈l,vy x<=819200)->a+12*l.length<=819200+a:=by
   intro l
   induction l with
   | nil=>intro a _ _ _;simp
   | cons x l ih =>
     intro a hr ha O;have aa:=List.pairwise_cons.1 hr;have:=ih a aa.2 (fun y I=>ha y (qE _ I)) (fun y I=>O y (qE _ I))
     have aD:∀(l:List Rec) (b:Nat),mr l->(∀y∈l,b<=y.1)->(∀y∈l,vy y<=819200)->b<=819200->b+12*l.length<=819200:=by
      intro l
      induction l with
      | nil=>intro b _ _ _ hb;simpa using hb
      | cons z l aJ =>
        intro b hr hb O aK;have aa:=List.pairwise_cons.1 hr;have hz:=O z qD;have aM:=hb z qD;have aN:z.1+12<=vy z:=(by unfold vy;omega);have:=aJ (vy z) aa.2 aa.1 (fun y I=>O y (qE _ I)) hz;rw[qk];omega
     have:=aD (x::l) 0 hr (fun y I=>qF _) O (by omega);omega
  have h5:∀x∈jO 0 chs,vy x<=819200:=fun x d=>by
   have:=(v.2 x d).2;have:=g.many;omega
  have:=h4 (jO 0 chs) 0 v.1 (fun x d=>qF _) h5;omega
 have u:=(oR chs 0 (fun U P=>(g.small U P).1)).1;have ad:=(Below.refl w.heap.size w).alloc (qK _) (.cells #[.int .i64 n,.int .i64 (f:Nat),.int .u64 (seed:Nat),.slice A k cp] 40);have N:=jY.new w 40 #[.int .i64 n,.int .i64 (f:Nat),.int .u64 (seed:Nat),.slice A k cp];have v:=h.more api ad (B:=[w.heap.size]) (fun x d=>by rw[qH.1 d];exact⟨qK _,N.lt⟩);have ae:=(jV.qn ad (fun x d=>h.lt x (qE _ d)):jV E w _)
 obtain⟨w1,aI⟩:∃w1,w.alloc (.cells #[.int .i64 n,.int .i64 (f:Nat),.int .u64 (seed:Nat),.slice A k cp] 40)=w1:=⟨_,rfl⟩
 rw[aI]at N v ae;have k1:=N.cell 1;have H1:=qQ v;have az:=qQ ae;have aw:=qQ N;have HG:=qQ g;have HW:=qQ hw;have ax:=qQ an;have aB:=qQ ao;have aA:=qQ H;have aC:=qQ u;obtain⟨R,o⟩:∃R,R=jO 0 chs:=⟨_,rfl⟩
 have i:=qQ o;clear ad N v ae h g hw an ao H u o;go_enter func32,ntmps32;go_wp2
 go_loopw [7] (fun p wr=>∃(pos c:Nat) (S':IxS),p = .int .i64 pos/\f<=pos/\pos<=900000/\jy At w0 gd gl gx r S' L chs { D with count:=c } ([w.heap.size]++E) wr/\jV E w wr/\jY wr w.heap.size 40 #[.int .i64 n,.int .i64 (f:Nat),.int .u64 (seed:Nat),.slice A k cp] /\
  S'.m=S.m/\S'.T=S.T/\dj seed R f pos S'.mem/\c+200*pJ R pos<=D.count+200*R.length) (fun p _=>pJ R (intOf p).toNat)
 case atStart =>
  refine⟨f,D.count,S,rfl,qK _,aE,H1.out,az.out,aw.out,rfl,rfl, ?_, ?_⟩
  ·rw[aB.out];exact dj.start seed R f
  ·have:=Dq R f;omega
 case round =>
  obtain⟨pos,c,S',rfl,al,aG,o,W,ac,hm,X,hF,Z⟩:=hrel;have H:=aA.out;rw[<-i.out]at H;have ar:=Dq R pos;have Y:c<=900000000:=by omega
  cases t:R.find? (fun x=>decide (pos<=x.1)) with
  | none =>
    have C:=t;rw[i.out]at C;have G:=qQ (qY8 api nap cap o Y pos (by omega) C);have HD:=qQ (hF.done t);have F:=qQ (qU hm (qU X (qU W Z)));clear o W ac hm X hF Z t C Y ar H k1 al aG;go_wp2_with fail;refine G.out.mono ?_;rintro e w2⟨rfl,c2,s,j,J⟩;have K:=qQ (qU s (qU (j.less (fun x d=>qJ _ d):jy At w0 gd gl gx r S' L chs { D with count:=c2 } E w2) (J.less (fun x d=>qJ _ d):jV E wr w2)));clear j J s G;go_wp2;go_ret;obtain⟨m1,m2,m3,m4⟩:=F.out;obtain⟨V,f2,f3⟩:=K.out;have V:c2<=c+200:=V;refine⟨rfl,S',c2,f2,m3.trans f3,m1,m2, ?_, ?_⟩
    ·rw[<-i.out];exact HD.out
    ·rw[<-i.out];omega
  | some x =>
    obtain⟨q,p⟩:=x;have C:=t;rw[i.out]at C;have u:=aC.out;rw[<-i.out]at u;have hst:=qV3 u t;obtain⟨au,av,-⟩:=Jo u t;have Q:=au;rw[i.out]at Q;have am:=qYq HG.out Q;have aq:q<vy (q,p):=by unfold vy;simp only;omega
    have aF:S'.mem.length<=1000:=by
     have v:=hF.len o.ok.qw;have j:=ax.out;rw[<-i.out]at j;omega
    have G:=qQ (qY9 api nap cap o Y pos (by omega) C);have ah:=qQ (fun(w3:World) (c3:Nat) (M:jy At w0 gd gl gx r S' L chs { D with count:=c3 } ([w.heap.size]++E) w3)=>qVa (p:=p) api M hs (HW.out _ Q) (qV4 HG.out Q) (by omega:q<=2147483647) (by omega));have aj:=qQ (fun(M':List jJ) (hM:∀y,y∈M'↔y∈S'.mem∨y∈kV seed (q,p))=>hF.step u t al hM);have F:=qQ (qU hm (qU X (qU W ac)));have aH:pos<vy (q,p):=Nat.lt_of_le_of_lt av aq;obtain⟨ag,ap⟩:∃ag,ag=vy (q,p):=⟨_,rfl⟩
    rw[<-ap]at G aj hst am aH;have ai:=qQ (qU hst Z);clear o W ac hm X hF Z t C Y ar H k1 u au Q av aq aF ap hst;go_wp2_with fail;refine G.out.mono ?_;rintro e w2⟨rfl,c2,s,j,J⟩;have ab:=J.qa F.out.2.2.2 (qG _ qD);have k2:=ab.cell 2;have HA:=qQ (ah.out w2 c2 j);have K:=qQ (qU s (qU ab (F.out.2.2.1.trans (J.less (fun x d=>qJ _ d)))));clear j J s ab G ah;go_wp2_with fail;refine HA.out.mono ?_;rintro e w3⟨rfl,S3,M,af,ak⟩;have ay:=qQ (qU M (qU (af.qa K.out.2.1 (qG _ qD)) (qU (K.out.2.2.trans (af.less (fun x d=>qJ _ d))) ak)));clear M af ak HA k2;go_wp2;go_roundw
    case rel =>
     obtain⟨V,f2,f3,f4⟩:=ay.out;obtain⟨s1,s2⟩:=ai.out;have s:=K.out.1;have s:c2<=c+200:=s;refine⟨ag,c2,S3,by go_num,by omega,am,V,f3,f2,f4.m.trans F.out.1,f4.T.trans F.out.2.1,aj.out _ (fun y=>?_),by omega⟩;rw[f4.mem,<-qVr seed (q,p),List.take_length]
    case measure =>
     have:=ai.out.1;simp[intOf];omega
end
section
variable {At:jL}(api:jM At){w0 w w':World}{gd gl gx r seed:Nat}{S S':IxS}{L:jN}{chs:List (List Tw)}{D D':jK}{E E' B:List Nat}
structure KV(At:jL)(w0:World)(gd gl gx r seed:Nat)(S:IxS)(L:jN)(chs:List (List Tw))(D:jK)(E:List Nat)(w:World)(S':IxS)(D':jK)(w':World):Prop where
 sx:jy At w0 gd gl gx r S' L chs D' E w'
 kept:jV E w w'
 m:S'.m=S.m
 T:S'.T=S.T
 mem:∀y,y∈S'.mem↔∃x∈jO 0 chs,S.m.check<=(x.1:Int)/\y∈kV seed x
 cap:D'.cap=D.cap
 qp:D'.qp=D.qp
 count:D'.count<=D.count+200*((jO 0 chs).length+1)
 used:jA D'.l<=jA D.l
 map:jW D'.l jC=jW D.l jC
theorem Di(api:jM At)(h:gV At w0 gd gl gx r S L chs D E w):Calls prog 11 #[ptr gx] w (fB w S.m.next S.m.check S.m.seed S.m.lv):=Cn api h.ix h.ok
end
section
variable {At:jL}(api:jM At)(nap:jm)(iap:yn At)(cap:yY){w0 w w':World}{gd gl gx r seed:Nat}{S S':IxS}{L:jN}{chs:List (List Tw)}{D D':jK}{E E' B:List Nat}
def sG(At:jL)(w0:World)(gd gl gx r seed:Nat)(S:IxS)(L:jN)(chs:List (List Tw))(D:jK)(E:List Nat)(w:World):Prop :=
 ∀a A c,vJ a w.heap.size (.slice A S.m.lv.length c) S.m.lv->Below w.heap.size w a ->
  let w2:=a.alloc (.cells #[.int .i64 S.m.next,.int .i64 S.m.check,.int .u64 (S.m.seed:Nat),.slice A S.m.lv.length c] 40)
  Calls prog 31 #[ptr gd,.agg #[.int .i64 S.m.next,.int .i64 S.m.check,.int .u64 (S.m.seed:Nat),.slice A S.m.lv.length c]] w2 fun e b=>e = .returned (.int .i64 0) /\
   jY b a.heap.size 40 #[.int .i64 S.m.next,.int .i64 S.m.check,.int .u64 (S.m.seed:Nat),.slice A S.m.lv.length c] /\
   Calls prog 32 #[ptr gx,ptr gl,.agg #[.int .i64 S.m.next,.int .i64 S.m.check,.int .u64 (S.m.seed:Nat),.slice A S.m.lv.length c]] b fun e d=>e = .returned (.int .i64 0)/\∃S' D',KV At w0 gd gl gx r seed S L chs D E w S' D' d
include api nap iap cap in
theorem Do(h:gV At w0 gd gl gx r S L chs D E w)(N:S.mem=[])(R:S.m.seed=seed)(g:Nat)(F:S.m.check=(g:Nat))(C:g<=900000)(hw:∀x∈jO 0 chs,kr x.2=true)(H:(vu seed (jO 0 chs)).length<=1000)(Y:D.count<=840000000)(Q:seed<18446744073709551616)(K:S.m.lv.length<=100000):
  sG At w0 gd gl gx r seed S L chs D E w:=by
 intro d A c P k;obtain⟨G,o,J⟩:=P.keep;have l:=h.more api k (B:=G) (fun b i=>o b i);have j:=(Below.refl d.heap.size d).alloc (qK _) (.cells #[.int .i64 S.m.next,.int .i64 S.m.check,.int .u64 (S.m.seed:Nat),.slice A S.m.lv.length c] 40);have n:=jY.new d 40 #[.int .i64 S.m.next,.int .i64 S.m.check,.int .u64 (S.m.seed:Nat),.slice A S.m.lv.length c];have u:=l.more api j (B:=[d.heap.size]) (fun x a=>by rw[qH.1 a];exact⟨qK _,n.lt⟩);have M:uB (d.alloc (.cells #[.int .i64 S.m.next,.int .i64 S.m.check,.int .u64 (S.m.seed:Nat),.slice A S.m.lv.length c] 40)) (.slice A S.m.lv.length c) S.m.lv G:=J.step (jV.qn j (fun x a=>(o x a).2));have I:jV E w (d.alloc (.cells #[.int .i64 S.m.next,.int .i64 S.m.check,.int .u64 (S.m.seed:Nat),.slice A S.m.lv.length c] 40)):=(jV.qn k (fun x a=>h.ix.lt x (qE _ a))).trans (jV.qn j (fun x a=>l.ix.lt x (qE _ (qJ _ a))));intro w2;refine(qVN iap u (G:=G) (fun b i=>qE _ (qJ _ (qG _ i))) M rfl rfl K).mono ?_;rintro e w3⟨X,rfl,v,q,f,T,O⟩;have z:=q.qa n (qG _ qD);refine⟨rfl,z, ?_⟩;have p:=qYx api nap cap v N g C S.m.next A S.m.lv.length c Q hw H (by rw[f.count];omega);rw[<-F]at p;rw[R];refine p.mono ?_;rintro e w4⟨rfl,S',s,y,U,V,W,t,Z⟩;refine⟨rfl,S',_,⟨y.less (fun x a=>qJ _ (qJ _ a)),I.trans ((q.less (fun x a=>qJ _ (qJ _ a))).trans (U.less (fun x a=>qJ _ (qJ _ a)))),V,W,t,f.cap,f.qp, ?_,T,O⟩⟩;have:=f.count;show s<=_;omega
include api nap iap cap in
theorem qYz(h:kM At w0 gd gl L chs D E w)(ok:WfP D)(al:D.count<=800000000)(i:vW D=0->jw (jb D)/\∀x∈(jb D).lv.flatten,jo D x=0->(tgL (rdW D (ptT x)).1).length<=10000)
  (aa:¬(vW D≠0∨(jb D).seed≠seed∨((kC chs:Nat):Int)<(jb D).check∨∃x∈(jb D).lv.flatten,jo D x≠0)) (hw:∀x∈jO 0 chs,kr x.2=true) (af:(vu seed (jO 0 chs)).length<=1000) (hs:seed<18446744073709551616):
  Calls prog 9 #[ptr gd,ptr gl,.int .u64 (seed:Nat),.float .f64 r] w fun e w'=>∃gx T S' D' j,e = .returned (.tuple #[ptr gx,.bool false,.int .i64 0])/\T.map (fun t=>(t.n:Int))=(jb D).lv.flatten/\(∀t∈T,vO D t.n t.l)/\j<=81/\jV E w w' /\
   ∃v,jV E w v/\KV At w0 gd gl gx r seed ⟨jb D,T,[]⟩ L chs { D with count:=D.count+j } E v S' D' w':=by
 have Z:=h.xX.many;have O:=qQ (Da api nap h.st ok (by omega) (by rw[h.gl.xC];exact Z));have M:=qQ (fun W (f:bX At w0 gd gl L D E W)=>De api nap iap (⟨f,h.fl,h.xX,h.gl⟩:kM At w0 gd gl L chs D E W) (by omega) i seed r);have ag:=sV h.xX;have ad:=qQ (fun q=>(i q).1);have P:=qQ aa
 have s:=qQ (fun(gx:Nat) (T:List TbS) (j:Nat) (W:World) (hj:j<=81) (ai:(jb D).seed=seed) (ak:(jb D).check<=((kC chs:Nat):Int)) (h0:vW D=0) (f:gV At w0 gd gl gx r ⟨jb D,T,[]⟩ L chs { D with count:=D.count+j } E W)=>(by
  have Y:=(i h0).1;have h3:=Y.2.2.1;obtain⟨u,ae⟩:∃u:Nat,(jb D).check=(u:Nat):=⟨(jb D).check.toNat,by omega⟩
  exact Do api nap iap cap f rfl ai u ae (by omega) hw af (by show D.count+j<=_;omega) hs (by have:=Y.2.2.2.2.1.1;simp only at this ⊢;omega):sG At w0 gd gl gx r seed ⟨jb D,T,[]⟩ L chs { D with count:=D.count+j } E W))
 unfold sG at s;have o:=qQ (fun(gx:Nat) (T:List TbS) (j:Nat) (W:World) (f:gV At w0 gd gl gx r ⟨jb D,T,[]⟩ L chs { D with count:=D.count+j } E W)=>Di api f);unfold fB jr at o;clear i aa h ag Z;go_enter func9,ntmps9;go_wp2_with fail;refine O.out.mono ?_;rintro e w1⟨k,hk,rfl,V,k1⟩;have q1:¬(k:Int)=1:=by omega
 have q2:((k:Int)==1)=false:=qv.2 q1;have K:=qQ (M.out w1 V);have ab:=qQ k1;clear V k1 O hk M;go_wp2_with fail;refine K.out.mono ?_;rintro e G (⟨gx,T,j,rfl,l1,l2,g,l4,l5,C,y,k2⟩|⟨j,rfl,ah,-⟩);rotate_left
 ·exact absurd ah P.out
 have m:=qQ (o.out gx T j G y);have p:=qQ (s.out gx T j G C l2 g l1 y);have I:=qQ (qU l4 (qU l5 (qU C (ab.out.trans k2))));clear l1 l2 g l4 l5 C y k2 K o s q1 q2 P ad;obtain⟨F,z⟩:∃F,F=jb D:=⟨_,rfl⟩
 rw[<-z]at m p I;obtain⟨x0,x1,x2,R⟩:=F;have ac:=qQ z;clear z;go_wp2_with fail;refine m.out.mono ?_;rintro e H⟨A,c,rfl,g,Q⟩;have b:=p.out H A c g Q;have a:=jY.new H 40 #[.int .i64 x0,.int .i64 x1,.int .u64 (x2:Nat),.slice A R.length c];obtain⟨w4,aj⟩:∃w4,H.alloc (.cells #[.int .i64 x0,.int .i64 x1,.int .u64 (x2:Nat),.slice A R.length c] 40)=w4:=⟨_,rfl⟩
 rw[aj]at b a;have b:=qQ b;have z0:=a.cell 0;have z1:=a.cell 1;have z2:=a.cell 2;have z3:=a.cell 3;clear g Q m p a;go_wp2_with fail;refine b.out.mono ?_;rintro e w5⟨rfl,d,X⟩;have J:=qQ X;have y0:=d.cell 0;have y1:=d.cell 1;have y2:=d.cell 2;have y3:=d.cell 3;clear X d b z0 z1 z2 z3;go_wp2_with fail;refine J.out.mono ?_;rintro e w6⟨rfl,S',D',hp⟩;have N:=qQ hp;clear hp J y0 y1 y2 y3;go_wp2;go_ret3;obtain⟨f1,f2,f3,U⟩:=I.out;rw[<-ac.out];exact⟨gx,T,S',D',j,rfl,f1,f2,f3,U.trans N.out.kept,G,U,N.out⟩
end
section
variable {At:jL}(api:jM At)(nap:jm)(iap:yn At)(cap:yY){w0 w w':World}{gd gl gx r seed:Nat}{S S':IxS}{L:jN}{chs:List (List Tw)}{D D':jK}{E E' B:List Nat}
include api nap iap cap in
theorem qYj(h:kM At w0 gd gl L chs D E w)(ok:WfP D)(ao:D.count<=800000000)(ag:vW D=0->jw (jb D)/\∀x∈(jb D).lv.flatten,jo D x=0->(tgL (rdW D (ptT x)).1).length<=10000)
  (ai:¬(vW D=0/\(jb D).seed=seed/\(jb D).check<=((kC chs:Nat):Int)/\∀x∈(jb D).lv.flatten,jo D x=0)) (hw:∀x∈jO 0 chs,kr x.2=true) (al:(vu seed (jO 0 chs)).length<=1000) (hs:seed<18446744073709551616):
  Calls prog 9 #[ptr gd,ptr gl,.int .u64 (seed:Nat),.float .f64 r] w fun e w'=>∃gx S' D',e = .returned (.tuple #[ptr gx,.bool true,.int .i64 0])/\jV E w w' /\
   ∃v a,KV At w0 gd gl gx r seed ⟨cJ seed,[],[]⟩ L chs a E v S' D' w'/\a.qp=D.qp/\a.cap=D.cap/\a.count<=D.count+161/\jA a.l<=jA D.l/\jW a.l jC=none:=by
 have af:=h.xX.many;have ah:=h.fl.up.down;have O:=qQ (Da api nap h.st ok (by omega) (by rw[h.gl.xC];exact af));have J:=qQ (fun W (b:bX At w0 gd gl L D E W)=>De api nap iap (⟨b,h.fl,h.xX,h.gl⟩:kM At w0 gd gl L chs D E W) (by omega) ag seed r)
 have P:=qQ (fun(gx:Nat) (T:List TbS) (j:Nat) (h0:vW D=0) (am:(jb D).seed=seed) (ak:(jb D).check<=((kC chs:Nat):Int)) (hT:T.map (fun t:TbS=>(t.n:Int))=(jb D).lv.flatten) (hH:∀t∈T,vO D t.n t.l)=>(ai ⟨h0,am,ak,fun x hx=>by
  rw[<-hT]at hx;obtain⟨t,ht,rfl⟩:=qN.1 hx;exact(pQ ah (hH t ht)).1⟩:False))
 have C:=qQ (fun(j:Nat) (W:World) (s:j<=81) (b:kM At w0 gd gl L chs { D with count:=D.count+j } E W)=>qY7 api nap b (by show D.count+j<=_;omega) seed r hs)
 have m:=qQ (fun(gx:Nat) (a:jK) (W:World) (o:a.count<=D.count+161) (b:gV At w0 gd gl gx r ⟨cJ seed,[],[]⟩ L chs a E W) =>
  (Do api nap iap cap b rfl rfl 0 rfl (by omega) hw al (by omega) hs (qF _):sG At w0 gd gl gx r seed ⟨cJ seed,[],[]⟩ L chs a E W))
 have i:=qQ (fun(gx:Nat) (a:jK) (W:World) (b:gV At w0 gd gl gx r ⟨cJ seed,[],[]⟩ L chs a E W)=>Di api b);unfold sG at m;unfold fB jr at i;have aa:(cJ seed).next=0:=rfl;have ab:(cJ seed).check=0:=rfl;have ac:(cJ seed).seed=seed:=rfl;have ad:(cJ seed).lv=[]:=rfl;simp only[aa,ab,ac,ad,List.length_nil]at m i;clear ag ai h af aa ab ac ad ah;go_enter func9,ntmps9;go_wp2_with fail;refine O.out.mono ?_;rintro e w1⟨k,hk,rfl,Z,k1⟩;have q1:¬(k:Int)=1:=by omega
 have q2:((k:Int)==1)=false:=qv.2 q1;have I:=qQ (J.out w1 Z);have G:=qQ k1;clear Z k1 O hk J;go_wp2_with fail;refine I.out.mono ?_;rintro e w2 (⟨gx,T,j,rfl,l1,l2,l3,p,l5,-⟩|⟨j,rfl,-,s,h2,k2⟩)
 ·exact(P.out gx T j l1 l2 l3 p l5).elim
 have z:=qQ (C.out j w2 s h2);have H:=qQ (G.out.trans k2);clear h2 k2 I C q1 q2 P G;go_wp2_with fail;refine z.out.mono ?_;rintro e u⟨gx,a,rfl,q,k3,R,U,V,X,Y⟩
 have o:a.count<=D.count+161:=by
  have:a.count<=D.count+j+80:=V;omega
 have K:=qQ (i.out gx a u q);have N:=qQ (m.out gx a u o q);have aj:=qQ (qU (H.out.trans k3) (qU (show a.qp=D.qp from R) (qU (show a.cap=D.cap from U) (qU o (qU (show jA a.l<=jA D.l from X) Y)))));clear q k3 R U V X Y o z i m H s;go_wp2_with fail;refine K.out.mono ?_;rintro e y⟨A,c,rfl,p,Q⟩;have f:=N.out y A c p Q;have d:=jY.new y 40 #[.int .i64 0,.int .i64 0,.int .u64 (seed:Nat),.slice A 0 c];obtain⟨w5,an⟩:∃w5,y.alloc (.cells #[.int .i64 0,.int .i64 0,.int .u64 (seed:Nat),.slice A 0 c] 40)=w5:=⟨_,rfl⟩
 rw[an]at f d;have f:=qQ f;have z0:=d.cell 0;have z1:=d.cell 1;have z2:=d.cell 2;have z3:=d.cell 3;clear p Q K N d;go_wp2_with fail;refine f.out.mono ?_;rintro e w6⟨rfl,g,ae⟩;have F:=qQ ae;have y0:=g.cell 0;have y1:=g.cell 1;have y2:=g.cell 2;have y3:=g.cell 3;clear ae g f z0 z1 z2 z3;go_wp2_with fail;refine F.out.mono ?_;rintro e w7⟨rfl,S',D',hp⟩;have M:=qQ hp;clear hp F y0 y1 y2 y3;go_wp2;go_ret3;obtain⟨f1,f2,f3,f4,f5,f6⟩:=aj.out;exact⟨gx,S',D',rfl,f1.trans M.out.kept,u,a,M.out,f2,f3,f4,f5,f6⟩
end
end
section
open Go.RowKit Go.Shelf
theorem Dw{D:jK}{n:Int}{l b:List jJ}(h:vO D n l)(k:vO D n b):l=b:=by
 obtain⟨f,c,-,d⟩:=h;obtain⟨g,a,-,i⟩:=k;rw[c]at a;obtain rfl:=qg a;rw[<-d,<-i]
theorem qYd{At:jL}(api:jM At)(nap:jm)(iap:yn At)(cap:yY):dY At where
 keep:=by
  intro w0 w gd gl L chs D E seed r S h ok o g aa G C hr;have F:=h.fl.up.down;obtain⟨l1,k,-⟩:=Je F ok.may ok.seed g.map;have H:(jb D).lv.flatten=S.m.lv.flatten:=by rw[k];exact sK S.m
  have P:(jb D).check=S.m.check:=by rw[k];rfl
  have ab:(jb D).seed=S.m.seed:=by rw[k];rfl
  refine(qYz api nap iap cap h h.fl.up.wf C (fun _=>⟨by rw[k];exact tX ok.may,fun x d _=>?_⟩) ?_ o.whole G (by rw[<-o.sd];exact ok.seed)).mono ?_
  ·rw[H]at d;obtain⟨t,b,rfl⟩:=(ok.xY x).1 d;rw[(pQ F (g.has t b)).2];exact aa t b
  ·rintro (q|q|q|⟨x,d,q⟩)
   ·exact q l1
   ·exact q (ab.trans o.sd)
   ·have:=o.check;rw[P]at q;omega
   ·rw[H]at d;obtain⟨t,b,rfl⟩:=(ok.xY x).1 d;exact q (pQ F (g.has t b)).1
  ·rintro e w'⟨gx,T,S',D',j,rfl,p,N,hj,I,v,ad,a⟩;have s:S'.m=dD S.m:=a.m.trans k;have O:S'.T=T:=a.T;rw[H]at p
   have Y:T.length=S.T.length:=by
    have i:=congrArg List.length p;rw[qj]at i;have:=ok.many;omega
   have ac:∀t∈T,∃u∈S.T,u.l=t.l:=fun t b=>by
    have:(t.n:Int)∈S.m.lv.flatten:=(by rw[<-p];exact qN.2 ⟨t,b,rfl⟩);obtain⟨u,c,z⟩:=(ok.xY _).1 this;refine⟨u,c, ?_⟩;have f:=g.has u c;rw[z]at f;exact Dw f (N t b)
   have Z:∀u∈S.T,∃t∈T,t.l=u.l:=fun u c=>by
    have:(u.n:Int)∈T.map fun t:TbS=>(t.n:Int):=by rw[p];exact(ok.xY _).2 ⟨u,c,rfl⟩
    obtain⟨t,b,z⟩:=qN.1 this;refine⟨t,b, ?_⟩;have f:=N t b;rw[z]at f;exact Dw f (g.has u c)
   refine⟨gx,S',D',rfl,⟨a.sx,I, ?_,a.cap,a.qp, ?_,a.used⟩,⟨?_,fun t b=>a.sx.ok.has t b⟩,s⟩
   ·refine o.opened (by rw[s];rfl) (by rw[s];rfl) (fun y=>?_) (fun y=>?_) (by rw[O,Y];exact qK _)
    ·rw[O];constructor
     ·rintro ⟨t,b,J⟩;obtain⟨u,c,e⟩:=ac t b;exact⟨u,c,by rw[e];exact J⟩
     ·rintro ⟨u,c,J⟩;obtain⟨t,b,e⟩:=Z u c;exact⟨t,b,by rw[e];exact J⟩
    ·rw[a.mem];simp only[P]
   ·have:=a.count;simp only at this;omega
   ·have i:jW D'.l jC=jW D.l jC:=a.map;rw[i,g.map,s,YK]
 zY:=by
  intro w0 w gd gl L chs D E seed r h hw Q G C hs hr;refine(qYj api nap iap cap h h.fl.up.wf C (fun A=>?_) ?_ hw G hs).mono ?_
  ·rcases Q with q|⟨-,q1,q2,-⟩
   ·exact absurd A q
   ·exact⟨q1,q2⟩
  ·rintro ⟨A,i,f,X⟩;rcases Q with q|⟨-,-,-,q|q|⟨x,d,q⟩⟩
   ·exact q A
   ·exact q i
   ·omega
   ·exact q (X x d)
  ·rintro e w'⟨gx,S',D',rfl,I,v,D2,a,R,U,e3,V,W⟩;refine⟨gx,S',D',rfl,⟨a.sx,I,qV1 hw (by rw[a.m];rfl) (by rw[a.m];rfl) a.T (fun y=>?_),a.cap.trans U,a.qp.trans R, ?_,qO a.used V⟩,a.map.trans W,a.T,a.m⟩
   ·rw[a.mem];exact⟨fun⟨x,K,_,M⟩=>⟨x,K,M⟩,fun⟨x,K,M⟩=>⟨x,K,by show(0:Int)<=_;omega,M⟩⟩
   ·have:=a.count;omega
end
end Go.Proofs.YtokbfellcadkpaaGreat

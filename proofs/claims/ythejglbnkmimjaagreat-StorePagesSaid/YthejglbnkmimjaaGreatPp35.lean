import Derived.Test.YthejglbnkmimjaaGreatPp34
set_option linter.unusedVariables false
set_option maxRecDepth 100000
set_option maxHeartbeats 9000000
namespace Go.Proofs.YthejglbnkmimjaaGreat
open Proofs.Tryz
section
open Go.RowKit Go.Shelf
attribute [local go_sem] dK
section
variable {At:j6}(api:j8 At)(nap:kZ)(iap:gq At)(cap:v8)(rapi:nh At)
include api nap iap cap rapi
namespace StPgW
def NameOk(T:List jb)(s:Tw):Prop:=1<=(ofT s T).length/\stS s=true/\s.size<=100000
omit api nap iap cap rapi in
theorem NameOk.more{T a:List jb}{s:Tw}(h:NameOk T s):NameOk (T++a) s:=⟨by rw[XJ,qL];have:=h.1;omega,h.2⟩
omit api nap iap cap rapi in
theorem pg_sum{a b c d q x y z t:Nat}(f:d<=c+x)(g:c<=b+x)(i:b<=a+y)(j:a<=t+q)(k:x+x+y<=z):d<=t+(q+z):=by omega
omit api nap iap cap rapi in
theorem pg_count{a b c d j:Nat}(f:d<=c+1000000)(g:c<=b+1000000)(i:b<=a+70000)(k:a<=6000000+3000000*j):d<=6000000+3000000*(j+1):=by
 rw[Nat.mul_succ];exact pg_sum f g i k (Nat.le_of_ble_eq_true rfl)
theorem walk(W:World)(v0:Value)(l0:List cq)(x1:sQ)(a2:Int)(eq:mD W v0 l0)(eB:∀x∈l0,lD W x)(cu:J7 x1)(w2:(Lit.int .u8 a2).wf=true):Calls prog 4 #[v0,J6 x1,.int .u8 a2] W (X3 (.bool true) W):=by
 obtain⟨sz,rfl,hp⟩:=Kq w2;have d7:=qQ (fun W=>qYM api nap cap rapi W);have ay:=(qG W.1.size W).alloc (qK _) (.cells #[.int .u64 (x1.d:Nat),.float .f64 x1.r,.int .u16 (x1.m:Nat)] 27);have B1:=jN.new W 27 #[.int .u64 (x1.d:Nat),.float .f64 x1.r,.int .u16 (x1.m:Nat)];obtain⟨w1,ex⟩:∃w1,W.alloc (.cells #[.int .u64 (x1.d:Nat),.float .f64 x1.r,.int .u16 (x1.m:Nat)] 27)=w1:=⟨_,rfl⟩
 rw[ex]at ay B1;have ci:=eq.below ay (qK _);have cp:∀x∈l0,lD w1 x:=fun x K=>(eB x K).below ay (qK _)
 have ev:W.1.size<=w1.1.size:=ay.size;obtain⟨A,off,c,rfl,ml,en⟩:=ci.form;have b7:=qJF _ l0 60 w1 ci cp (by decide);obtain⟨n,hn⟩:∃n,n=l0.length:=⟨_,rfl⟩
 rw[<-hn]at b7;have HG:Hid (Calls prog 6 #[.slice A n c,.int .i64 60] w1 (X0 (.bool (cW l0 60)) w1)):=qQ b7;have da:=qQ ay;have HC:=qQ (fun W' (hW:Below w1.1.size w1 W')=>B1.below hW);have eJ:=qQ en;have e7:=qQ cp;have HN:=qQ hn;have aR:=qQ cu;have k0:=B1.cell 0;have k1:=B1.cell 1;have k2:=B1.cell 2;have d3:=qQ (FZ api nap cap rapi x1 cu w1);rw[<-hn];clear ay B1 ci cp eq eB en b7 cu hn w2;obtain⟨hd,hr,hm⟩:=x1;simp only at d3 ex HC k0 k1 k2;show Calls prog 4 #[.slice A n c,.agg #[.int .u64 (hd:Nat),.float .f64 hr,.int .u16 (hm:Nat)],.int .u8 (sz:Nat)] W _;go_enter func4,ntmps4;by_cases ce:cW l0 60=true
 ·rw[ce]at HG
  go_wp2_with (first
   | (go_at_call 6;((with_reducible refine X5 HG.out ?_)))
   | (go_at_call 7;((with_reducible refine KG (d7.out _) fun w4 b4=>?_)))
   | fail)
  have X:=qQ (da.out.trans (b4.mono ev));clear b4;go_ret;exact⟨rfl,X.out⟩
 ·have cc:cW l0 60=false:=by simpa using ce
  rw[cc]at HG;have dp:=qQ cc;clear ce cc
  go_wp2_with (first
   | (go_at_call 6;((with_reducible refine X5 HG.out ?_)))
   | (go_at_call 8;((with_reducible refine d3.out.mono ?_);rintro e w3⟨U,gd,fc,fb,fd,S0,L0,D0,az,rfl,h0,h1,h2,h3,h4,h5⟩;have d4:=qQ (qU az (qU h0 (qU h1 (qU h2 (qU h3 (qU h4 h5))))))
                             ;clear az h0 h1 h2 h3 h4 h5))
   | fail)
  obtain⟨az,-⟩:=d4.out;have hq:w1.1.size<=U.1.size:=az.size
  have hh:n<=60:=by
   have:=dp.out;unfold cW at this;simp only[Bool.or_eq_false_iff,decide_eq_false_iff_not]at this;have:=this.2;rw[<-HN.out]at this;omega
  have eH:Hid (∀x∈l0,df x=false):=qQ (by
   have:=dp.out;unfold cW at this;simp only[Bool.or_eq_false_iff,decide_eq_false_iff_not]at this;exact fun x K=>by simpa using List.any_eq_false.1 this.1 x K)
  have au:=qQ az;clear az;go_loopw [8,10,11] (fun sv nv p wr=>∃(k J m c2:Nat) (H:Option Addr) (M:List Tw) (T:List jb),k<=n/\p=.int .i64 (k:Nat)/\sv=ptr J/\nv=.slice H m c2/\m=M.length/\m<=5/\PgS At U gd J hr hd k T (600+70000*k) (jS (.slice H m c2)) wr/\vf wr U.1.size (.slice H m c2) M/\∀s∈M,NameOk T s) (fun _ _ p _=>n-(intOf p).toNat)
  case atStart =>
   obtain⟨-,h0,h1,h2,h3,h4,h5⟩:=d4.out;refine⟨0,fc,0,0,none,[],[],qI _,rfl,rfl,rfl,rfl,by omega,⟨fb,fd,S0,L0,[],D0,h0,h1,rfl,qI _,by rw[h2];exact Int.le_refl _,by omega⟩,vf.nil _ _,fun s hs=>by cases hs⟩
  case round =>
   obtain⟨k,J,m,c2,H,M,T,hk,rfl,rfl,rfl,er,aK,hP,hS,ed⟩:=hrel;have HP:=qQ hP;have HS:=qQ hS;have ai:=qQ ed;have HM:=qQ er;have aY:=hP.base;have am:=au.out.trans (aY.mono au.out.size);have aZ:=HC.out _ am;have d0:=aZ.cell 0;have d1:=aZ.cell 1;clear hP hS ed er k0 k1 k2;by_cases f_:k<n
   ·--D1{
    have s1:(k:Int)<(n:Int):=(by omega);obtain⟨x,K⟩:∃x,l0[k]? = some x:=⟨_,qE (by rw[<-HN.out];exact f_)⟩
    obtain⟨b,rfl,aH,e0,e1,e2,e3,e4⟩:=eJ.out k x K;have f0:=ka am aH e0;have f1:=ka am aH e1;have f2:=ka am aH e2;have f3:=ka am aH e3;have f4:=ka am aH e4;have HX:=qQ K;have eb:=qQ (e7.out x (qN K));have bm:=qQ (qYS (eH.out x (qN K)) eb.out.l);obtain⟨eo,gc,A3,c3,ez⟩:=eb.out.v;have eM:=qQ eo;obtain⟨Z,xs,xa,xb,xv,xl⟩:=x;simp only at ez f0 f1 f2 f3 f4;subst ez;have c4:=qQ am;clear e0 e1 e2 e3 e4 K gc eo aY am aZ;have aI:=(qG wr.1.size wr).alloc (qK _) (.cells #[.int .u8 (Z:Nat),xs,xa,xb,.slice A3 xl.length c3] 42);have BX:=jN.new wr 42 #[.int .u8 (Z:Nat),xs,xa,xb,.slice A3 xl.length c3];obtain⟨w4,gk⟩:∃w4,wr.alloc (.cells #[.int .u8 (Z:Nat),xs,xa,xb,.slice A3 xl.length c3] 42)=w4:=⟨_,rfl⟩
    rw[gk]at aI BX;have ee:PgS At U gd J hr hd k T (600+70000*k) ([wr.1.size]++jS (.slice H m c2)) w4:=HP.out.xL api (jP.xA aI) (B:=[]) (fun b f=>by cases f) (fun b f=>(qD.1 f).elim (fun q=>qY (by rw[qH.1 q];exact⟨qK _,BX.lt⟩)) qX);have c_:=qQ (c4.out.trans (aI.mono c4.out.size));have ej:=vf.below HS.out aI (qK _);have y0:=BX.cell 0;have y1:=BX.cell 1;have y2:=BX.cell 2;have y3:=BX.cell 3;have y4:=BX.cell 4;have z0:w4.cell? ⟨W.1.size,0,none⟩=some (.int .u64 (hd:Nat)):=(HC.out _ c_.out).cell 0;have z1:w4.cell? ⟨W.1.size,1,none⟩=some (.float .f64 hr):=(HC.out _ c_.out).cell 1;have aS:=qQ ee;have ax:=qQ ej;have eI:=qQ BX;clear aI BX ee ej;have eN:=qQ (qY1 api nap iap aS.out (by omega) (by omega) aR.out.r);have eR:=qQ (fun gr=>qY2 api nap iap aS.out (by omega) (by omega) aR.out.r gr);have eT:=qQ (qY3 api nap cap rapi aS.out (by omega) (by omega) aR.out.d aR.out.r);have eD:=qQ (qY0 api nap cap aS.out (by omega) (by omega) xs (by have:=bm.out.1;simp only at this;omega) (-2) xl (A:=A3) (m:=xl.length) (c:=c3) (fun W' hW=>eM.out.below (au.out.trans (hW.mono au.out.size)) (qK _)) rfl (by have:=bm.out.2.1;simp only at this;omega) bm.out.2.2);have m0:Z%8<8:=Nat.mod_lt _ (by decide);rcases(show Z%8=5∨Z%8=6∨Z%8=7∨Z%8<5 by omega) with j|j|j|j
    ·have j1:((Z:Nat):Int)%8=5:=by omega
     go_wp2_with (first
      | (go_at_call 15;((with_reducible refine eN.out.mono ?_);rintro e w5⟨⟨z,rfl⟩,O,C⟩;have G:=qQ (qU O C);clear O C))
      | fail)
     go_roundw
     case rel=>exact⟨k+1,J,m,c2,H,M,T,by omega,by go_num,rfl,rfl,HM.out,aK,((G.out.1.less).up (qK _) (by omega)),G.out.2.x7 ax.out (fun b f=>qJ _ f),ai.out⟩
     case measure=>simp[intOf];omega
    ·have j1:((Z:Nat):Int)%8=6:=by omega
     go_wp2_with (first
      | (go_at_call 16;((with_reducible refine(eR.out _).mono ?_);rintro e w5⟨⟨z,rfl⟩,O,C⟩;have G:=qQ (qU O C);clear O C))
      | fail)
     go_roundw
     case rel=>exact⟨k+1,J,m,c2,H,M,T,by omega,by go_num,rfl,rfl,HM.out,aK,((G.out.1.less).up (qK _) (by omega)),G.out.2.x7 ax.out (fun b f=>qJ _ f),ai.out⟩
     case measure=>simp[intOf];omega
    ·have j1:((Z:Nat):Int)%8=7:=by omega
     go_wp2_with (first
      | (go_at_call 17;((with_reducible refine eT.out.mono ?_);rintro e w5⟨g2,rfl,O,C⟩;have G:=qQ (qU O C);clear O C))
      | fail)
     go_roundw
     case rel=>exact⟨k+1,g2,m,c2,H,M,T,by omega,by go_num,rfl,rfl,HM.out,aK,((G.out.1.less).up (qK _) (by omega)),G.out.2.x7 ax.out (fun b f=>qJ _ f),ai.out⟩
     case measure=>simp[intOf];omega
    ·have j1:¬((Z:Nat):Int)%8=5:=(by omega);have j2:¬((Z:Nat):Int)%8=6:=(by omega);have j3:¬((Z:Nat):Int)%8=7:=(by omega);go_wp2_with fail;refine eD.out.mono ?_;rintro e w5 (⟨⟨z,hz,rfl⟩,O,C⟩|⟨rfl,q5,O,C⟩)
     ·have G:=qQ (qU O C);have hB:¬z=0:=hz;clear O C hz;go_wp2;go_roundw
      case rel=>exact⟨k+1,J,m,c2,H,M,T,by omega,by go_num,rfl,rfl,HM.out,aK,((G.out.1.less).up (qK _) (by omega)),G.out.2.x7 ax.out (fun b f=>qJ _ f),ai.out⟩
      case measure=>simp[intOf];omega
     ·by_cases hg:m<5
      ·have r1:((m:Nat):Int)<5:=(by omega);obtain⟨u9,w6,e6,A6,c6,gj,p6,s6⟩:=qY4 (x:=xs) api O.less (C.x7 ax.out (fun b f=>qJ _ f)) HM.out (by rw[<-HM.out];omega) 55;have hY:=C.xW eI.out (qW _ qC);have g3:w5.cell? ⟨wr.1.size,1,none⟩=some (.string xs):=hY.cell 1;subst gj;have eK:=qQ e6;have H6:=qQ (qU p6 s6);have eU:=qQ q5;clear O C e6 p6 s6 q5 hY;go_wp2_with (first|(at_builtin;refine yC rfl _ _ rfl rfl rfl eK.out ?_)|fail);go_roundw
       case rel =>
        refine⟨k+1,J,m+1,c6,A6,M++[xs],_,by omega,by go_num,rfl,rfl,by rw[qL,<-HM.out];rfl,by omega,H6.out.1.up (qK _) (by omega),H6.out.2,fun s hs=>?_⟩;rcases qD.1 hs with qs|qs
        ·exact(ai.out s qs).more
        ·rw[qH.1 qs];obtain⟨b1,b2,b3,b4,-⟩:=bc.1 eU.out;refine⟨?_, ?_,by omega⟩
         ·rw[XJ,Dd,qL,XZ];omega
         ·unfold stS;simp;omega
       case measure=>simp[intOf];omega
      ·have r1:¬((m:Nat):Int)<5:=(by omega);have G:=qQ (qU O C);clear O C q5;go_wp2;go_roundw
       case rel=>exact⟨k+1,J,m,c2,H,M,_,by omega,by go_num,rfl,rfl,HM.out,aK,((G.out.1.less).up (qK _) (by omega)),G.out.2.x7 ax.out (fun b f=>qJ _ f),fun s hs=>(ai.out s hs).more⟩
       case measure=>simp[intOf];omega
   ·obtain rfl:k=n:=(by omega);have s1:¬(k:Int)<(k:Int):=(by omega);obtain⟨gl,gx,S,L,chs,D,g1,g2,rfl,g4,g5,g6⟩:=HP.out;have d5:=qQ (qYP api nap cap g1 (by omega) (by omega));have dl:=qQ g4;have dn:=qQ g6;have d_:=qQ g1.vs;have ea:=qQ g1.rb.whole;have d6:=qQ aY.size;have s6:sz%7<7:=Nat.mod_lt _ (by decide);clear g1 g2 g4 g5 g6 d0 d1 aY aZ
    go_wp2_with (first
     | (go_at_call 19;((with_reducible refine d5.out.mono ?_);rintro e w3⟨A3,c3,cn,cb,rfl,r3,p3,i⟩;have H3:=qQ (qU cb (qU r3 (qU p3 i)));clear cb r3 p3 i))
     | fail)
    obtain⟨V,gi⟩:∃V:Nat,V=1+sz%7:=⟨_,rfl⟩
    have ec:(1+((sz:Nat):Int)%7:Int)=(V:Int):=(by omega);have et:1<=V:=(by omega);have ho:V<=7:=(by omega);rw[ec];clear ec gi;obtain⟨T,hT⟩:∃T,T=jn (jR 0 chs):=⟨_,rfl⟩
    rw[<-hT]at H3 d_ ⊢;obtain⟨Y,a7⟩:∃Y,Y=T.length:=⟨_,rfl⟩
    have bi:=qQ hT;have bk:=qQ a7;rw[<-a7]at H3 ⊢;have g7:(jR 0 chs).length<=60:=by have:=dl.out;omega
    have hu:Y<=480:=by
     have:=nd (jR 0 chs) ea.out;rw[a7,hT];omega
    have e5:Hid (∀x∈T,x.e.b<18446744073709551616):=qQ (by rw[hT];exact qYR ea.out);have eS:Hid (∀s∈M,NameOk T s):=qQ (by rw[hT];exact ai.out);have eV:Hid (vf w3 U.1.size (.slice H m c2) M):=qQ (H3.out.2.2.2.x7 HS.out (fun b f=>f));have cb:cn<=6000000:=(by have:=H3.out.1;have:=dn.out;omega);obtain⟨wl,ck⟩:∃wl:World,wl=wr:=⟨_,rfl⟩
    have gt:Hid (U.1.size<=wl.1.size):=qQ (by rw[ck];exact d6.out);have cv:Hid (kI w3 wl.1.size (.slice A3 Y c3) T/\jg At U gd gl gx J hr hd S L chs { D with count:=cn } (jS (.slice A3 Y c3)++jS (.slice H m c2)) w3/\wl.1.size<=w3.1.size):=qQ (by rw[ck];exact⟨H3.out.2.1,H3.out.2.2.1,H3.out.2.2.2.size⟩);clear hT a7 ck ai HS HP H3 d6 d5 dl dn;go_loopw [20] (fun p wx=>∃(j aG:Nat),j<=m/\p=.int .i64 (j:Nat)/\aG<=6000000+3000000*j/\jg At U gd gl gx J hr hd S L chs { D with count:=aG } (jS (.slice A3 Y c3)++jS (.slice H m c2)) wx/\vf wx U.1.size (.slice H m c2) M/\kI wx wl.1.size (.slice A3 Y c3) T) (fun p _=>m-(intOf p).toNat)
    case atStart=>exact⟨0,cn,qI _,rfl,by omega,cv.out.2.1,eV.out,cv.out.1⟩
    case round =>
     obtain⟨j,aG,hj,rfl,fy,hA,b_,bv⟩:=hrel;by_cases f7:j<m
     ·have s2:(j:Int)<(m:Int):=(by omega);obtain⟨s,hs⟩:∃s,M[j]? = some s:=⟨_,qE (by rw[<-HM.out];exact f7)⟩
      obtain⟨P,hP⟩:∃P,P=ofT s T:=⟨_,rfl⟩
      obtain⟨E0,b6⟩:∃E0,E0=jS (.slice A3 Y c3)++jS (.slice H m c2):=⟨_,rfl⟩
      have aa:Hid ((∀b∈jS (.slice A3 Y c3),b∈E0)/\(∀b∈jS (.slice H m c2),b∈E0)):=qQ (by rw[b6];exact⟨fun b f=>qW _ f,fun b f=>qJ _ f⟩);rw[<-b6]at hA;have ag:=qQ (qU hs (eS.out s (qN hs)));have an:=qQ hP;have eC:=qQ hA;have aE:=qQ (qU b_ bv);have eQ:=qQ hA.lt;have eP:=qQ hA.base.size;obtain⟨wj,gm⟩:∃wj:World,wj=wr:=⟨_,rfl⟩
      clear hs hP hA b_ bv;subst gm;go_wp2;go_loopw [21,24] (fun lv p wx=>∃(i:Nat) (N:List Nat) (A5:Option Addr) (u c5:Nat),i<=Y/\lv=.slice A5 u c5/\p=.int .i64 (i:Nat)/\yu At U gd gl gx J hr hd S L chs D E0 wj (ofT s (T.take i)) (.slice A5 u c5) aG N wx) (fun _ p _=>Y-(intOf p).toNat)
      case atStart=>exact⟨0,[],none,0,0,qI _,rfl,rfl,⟨kI.nil _ _,eC.out,jM.refl _ _,fun b f=>(by cases ja.1 f),fun b f=>by cases f⟩⟩
      case round =>
       obtain⟨i,N,A5,u,c5,he,rfl,rfl,ac⟩:=hrel;by_cases f9:i<Y
       ·--D3{
        have s3:(i:Int)<(Y:Int):=(by omega);obtain⟨y,hy⟩:∃y,T[i]? = some y:=⟨_,qE (by rw[<-bk.out];exact f9)⟩
        obtain⟨g,rfl,-,-,⟨a0,a1,a2,a3,a4⟩,-⟩:=(ac.kept.x8 aE.out.2 aa.out.1).cells hy;obtain⟨gn,rfl,-,b0⟩:=(ac.kept.x7 aE.out.1 aa.out.2).cells ag.out.1;have ep:=qY7 s hy;have ar:=qQ ac;have b5:=ac.below api (qG _ _).drew;have bb:=qQ (fun ty=>b5.more api (by have:=eP.out;omega) (by have:=List.length_take_le i T;have h2:(ofT s (T.take i)).length<=(T.take i).length:=List.length_filter_le _ _;omega) eQ.out y ty);have a8:=qQ b5;have aw:=qQ ep;clear ac b5 hy ep;by_cases e:y.s=s
        ·rw[qV e]at aw;have e1:=ox e;obtain⟨ys,yv,⟨yt,yd,yb⟩⟩:=y;simp only at a0 a1 a2 a3 a4 e e1;have gv:wr.drew.cell? ⟨g,i*5,none⟩=some (.string ys):=a0;have gy:wr.drew.cell? ⟨g,i*5+1,none⟩=some (.int .i64 yv):=a1;have gB:wr.drew.cell? ⟨g,i*5+2,none⟩=some (.string yt):=a2;have gF:wr.drew.cell? ⟨g,i*5+3,none⟩=some (.string yd):=a3;have gR:wr.drew.cell? ⟨g,i*5+4,none⟩=some (.float .f64 yb):=a4;have g0:wr.drew.cell? ⟨gn,j,none⟩=some (.string s):=b0;obtain⟨hC,N',w9,e9,h9,-,-,-⟩:=bb.out 36;rw[<-aw.out]at h9;have aQ:=qQ e9;obtain⟨A9,c9,rfl,-,-,-⟩:=vl h9.row;obtain⟨n9,aL⟩:∃n9,n9=(ofT s (T.take (i+1))).length:=⟨_,rfl⟩
         rw[<-aL]at h9 aQ;have H9:=qQ h9;clear e9 h9 aL bb aw a8 e;go_wp2;go_region
         go_wp2_with (first|(at_builtin;refine yC rfl _ _ rfl rfl rfl aQ.out ?_)|fail);go_roundw
         case rel=>exact⟨i+1,N',A9,_,c9,by omega,rfl,by go_num,H9.out⟩
         case measure=>simp[intOf];omega
        ·rw[qZ e]at aw;have e1:=rn e;obtain⟨ys,yv,⟨yt,yd,yb⟩⟩:=y;simp only at a0 a1 a2 a3 a4 e e1;have H9:Hid (yu At U gd gl gx J hr hd S L chs D E0 wj (ofT s (T.take (i+1))) (.slice A5 u c5) aG N wr.drew):=qQ (by rw[aw.out];exact a8.out);clear bb aw a8 e;go_wp2;go_region
         go_wp2;go_roundw
         case rel=>exact⟨i+1,N,A5,u,c5,by omega,rfl,by go_num,H9.out⟩
         case measure=>simp[intOf];omega
       ·obtain rfl:i=Y:=(by omega);have s3:¬(i:Int)<(i:Int):=(by omega);have eg:ofT s (T.take i)=P:=(by rw[bk.out,List.take_length,an.out]);rw[eg]at ac;obtain⟨pl,aB⟩:∃pl,pl=P.length:=⟨_,rfl⟩
        have ge:u=pl:=by
         obtain⟨A',c',e,-⟩:=vl ac.row;rw[aB];exact(Value.slice.inj e).2.1
        subst ge;have ab:=qQ aB;have hi:1<=u:=(by rw[aB,an.out];have:=ag.out.2.1;exact this);have hl:u<=480:=(by rw[aB,an.out];have:(ofT s T).length<=T.length:=List.length_filter_le _ _;have:=bk.out;omega);have d8:=qQ ac.st;have HZ:Hid (s.size<=maxLen):=qQ (by have:=ag.out.2.2.2;unfold maxLen;omega);have aD:=qYq api nap cap d8.out (by omega) (by omega) s HZ.out ag.out.2.2.1;rw[<-bi.out,<-an.out,<-aB]at aD;have aD:=qQ aD;have ar:=qQ ac;obtain⟨gn,rfl,-,b0⟩:=(ac.kept.x7 aE.out.1 aa.out.2).cells ag.out.1;obtain⟨wk,go⟩:∃wk:World,wk=wr:=⟨_,rfl⟩
        clear ac eg aB;subst go;have r5:(((u:Nat):Int)==0)=false:=by rw[qg];omega
        go_wp2_with (first
         | (go_at_call 20;((with_reducible refine aD.out.mono ?_);rintro e w5⟨bp,ek,rfl,eA,C⟩;have G:=qQ (qU ek (qU eA C));clear ek eA C))
         | fail)
        obtain⟨E1,aW⟩:∃E1,E1=N++E0:=⟨_,rfl⟩
        have ap:∀b∈E0,b∈E1:=fun b f=>by rw[aW];exact qJ _ f
        have aA:∀b∈jS (.slice A5 u c5),b∈E1:=fun b f=>by rw[aW];exact qW _ (ar.out.ol b f)
        have ae:=qQ (qU ap aA);have aJ:=G.out.2.2;have aN:=G.out.2.1;rw[<-aW]at aJ aN;have aT:Hid (vf w5 U.1.size (.slice (some ⟨gn,0,none⟩) m c2) M/\kI w5 wl.1.size (.slice A3 i c3) T/\kI w5 wj.1.size (.slice A5 u c5) P):=qQ ⟨aJ.x7 (ar.out.kept.x7 aE.out.1 aa.out.2) (fun b f=>ap b (aa.out.2 b f)),aJ.x8 (ar.out.kept.x8 aE.out.2 aa.out.1) (fun b f=>ap b (aa.out.1 b f)),aJ.x8 ar.out.row aA⟩;have eW:=qQ aN;have db:=qQ G.out.1;have eO:=qQ aN.lt;have eF:=qQ aN.base.size;have d9:Hid (uE T):=d_;clear ap aA aJ aN aW ar G aD d8 b0 r5;go_loopw [22,27] (fun lv p wx=>∃(a ah:Nat) (N2:List Nat) (A6:Option Addr) (n6 c6:Nat),a<=u+7/\lv=.slice A6 n6 c6/\p=.int .i64 (a:Nat)/\ah<=bp+2000*a/\yu At U gd gl gx J hr hd S L chs D E1 w5 (P.take a) (.slice A6 n6 c6) ah N2 wx) (fun _ p _=>u+8-(intOf p).toNat)
        case atStart=>exact⟨0,bp,[],none,0,0,by omega,rfl,rfl,by omega,⟨kI.nil _ _,eW.out,jM.refl _ _,fun b f=>(by cases ja.1 f),fun b f=>by cases f⟩⟩
        case round =>
         obtain⟨a,ah,N2,A6,n6,c6,ha,rfl,rfl,g_,ad⟩:=hrel;have fr:ah<=100000000:=(by have:=db.out;omega);by_cases g8:a<u
         ·--D4{
          have s4:(a:Int)<(u:Int):=(by omega);have hF:=qY8 api nap cap ad.st (by omega) (by omega) s HZ.out ag.out.2.2.1 a V (by omega) et (by omega);rw[<-bi.out]at hF;have X:=qQ hF;have aq:=qY5 d9.out s a V;rw[<-an.out]at aq;have af:=qQ aq
          have b1:wr.cell? ⟨gn,j,none⟩=some (.string s):=by
           obtain⟨g',I,-,q⟩:=(ad.kept.x7 aT.out.1 (fun b f=>ae.out.1 b (aa.out.2 b f))).cells ag.out.1;injection I with I;injection I with I;rw[I];exact q
          have cx:=qQ ad;obtain⟨Q,hQ⟩:∃Q,Q=kv s ((a:Nat):Int) (((a:Nat):Int)+(V:Nat)-1) T:=⟨_,rfl⟩
          rw[<-hQ]at X af
          have ff:Q.length<=480:=by
           have:(P.take a++Q).length=(P.take (a+V)).length:=(by rw[af.out]);rw[qL,qT,qT]at this;have:=ab.out;omega
          clear ad hF aq hQ;go_wp2_with fail;refine X.out.mono ?_;rintro e w6⟨A7,c7,e_,el,rfl,r7,aO,k7⟩;have al:=cx.out.call aO k7 (fun b f=>(r7.own b f).1);obtain⟨A8,c8,N8,w8,e8,aU⟩:=al.cat api (by have:=eF.out;omega) r7.xH (by rw[qT];omega) eO.out 36;rw[af.out]at aU;obtain⟨n8,es⟩:∃n8,n8=(P.take a).length+Q.length:=⟨_,rfl⟩
          rw[<-es]at aU e8;have eL:=qQ e8;have H8:=qQ (qU el aU);clear al e8 aU es el r7 aO k7 X cx af;go_wp2_with (first|(at_builtin;refine yC rfl _ _ rfl rfl rfl eL.out ?_)|fail);go_roundw
          case rel=>exact⟨a+V,e_,N8,A8,n8,c8,by omega,rfl,by go_num,by have:=H8.out.1;omega,H8.out.2⟩
          case measure=>simp[intOf];omega
         ·have s4:¬(a:Int)<(u:Int):=(by omega);have eh:P.take a=P:=qm (by rw[<-ab.out];omega);rw[eh]at ad;obtain⟨wm,gp⟩:∃wm:World,wm=wr:=⟨_,rfl⟩
          obtain⟨E2,aX⟩:∃E2,E2=N2++E1:=⟨_,rfl⟩
          have ap:∀b∈E1,b∈E2:=fun b f=>by rw[aX];exact qJ _ f
          have aA:∀b∈jS (.slice A6 n6 c6),b∈E2:=fun b f=>by rw[aX];exact qW _ (ad.ol b f)
          have av:=qQ (qU ap aA);have hst:=ad.st;rw[<-aX]at hst;have hk:=ad.kept;have aF:Hid (vf wr U.1.size (.slice (some ⟨gn,0,none⟩) m c2) M/\kI wr wl.1.size (.slice A3 i c3) T/\kI wr wj.1.size (.slice A5 u c5) P/\kI wr w5.1.size (.slice A6 n6 c6) P):=qQ ⟨hk.x7 aT.out.1 (fun b f=>ae.out.1 b (aa.out.2 b f)),hk.x8 aT.out.2.1 (fun b f=>ae.out.1 b (aa.out.1 b f)),hk.x8 aT.out.2.2 ae.out.2,ad.row⟩;have eX:=qQ hst;have d2:=qQ hst.lt;have cy:=qQ hst.base.size;have ft:ah<=bp+1000000:=(by omega);clear ad hst hk ap aA eh aX s4;subst gp;go_wp2;go_loopw [23,30] (fun lv p wx=>∃(t:Int) (ao:Nat) (N3:List Nat) (A7:Option Addr) (F c7:Nat),-8<=t/\t<=(u:Nat)-1/\lv=.slice A7 F c7/\p=.int .i64 t/\((ao:Nat):Int)<=(ah:Nat)+2000*((u:Nat)-1-t)/\yu At U gd gl gx J hr hd S L chs D E2 wm (P.drop (t+1).toNat).reverse (.slice A7 F c7) ao N3 wx) (fun _ p _=>(intOf p+9).toNat)
          case atStart =>
           refine⟨(u:Nat)-1,ah,[],none,0,0,by omega,Int.le_refl _,rfl,rfl,by omega,⟨?_,eX.out,jM.refl _ _,fun b f=>(by cases ja.1 f),fun b f=>by cases f⟩⟩;rw[List.drop_of_length_le (by rw[<-ab.out];omega)];exact kI.nil _ _
          case round =>
           obtain⟨t,ao,N3,A7,F,c7,ht,hv,rfl,rfl,hc,aj⟩:=hrel;have fs:ao<=ah+1000000:=(by omega);have g9:ah<=100000000:=fr;by_cases a6:0<=t
           ·--D5{
            have s5:t≥0:=a6;have hF:=qY9 api nap cap aj.st (by omega) (by omega) s HZ.out ag.out.2.2.1 t V a6 (by omega) et (by omega);rw[<-bi.out]at hF;have aq:=qY6 d9.out s t V a6;rw[<-an.out]at aq;have af:=qQ aq
            have b1:wr.cell? ⟨gn,j,none⟩=some (.string s):=by
             obtain⟨g',I,-,q⟩:=(aj.kept.x7 aF.out.1 (fun b f=>av.out.1 b (ae.out.1 b (aa.out.2 b f)))).cells ag.out.1;injection I with I;injection I with I;rw[I];exact q
            have aP:=qQ aj;obtain⟨Q,hQ⟩:∃Q,Q=(kv s (t-(V:Nat)+1) t T).reverse:=⟨_,rfl⟩
            rw[<-hQ]at hF af;have X:=qQ hF
            have ff:Q.length<=480:=by
             have h1:((P.drop (t+1).toNat).reverse++Q).length=(P.drop (t-(V:Nat)+1).toNat).reverse.length:=(by rw[af.out]);rw[qL,List.length_reverse,List.length_reverse,qw,qw]at h1;have:=ab.out;omega
            clear aj hF aq hQ;go_wp2_with fail;refine X.out.mono ?_;rintro e w6⟨A8,c8,fa,em,rfl,r7,aO,k7⟩;have al:=aP.out.call aO k7 (fun b f=>(r7.own b f).1);obtain⟨A9,c9,N9,w9,e9,aV⟩:=al.cat api (by have:=cy.out;omega) r7.xH (by rw[List.length_reverse,qw];have:=ab.out;omega) d2.out 36;rw[af.out]at aV;obtain⟨n9,aL⟩:∃n9,n9=(P.drop (t+1).toNat).reverse.length+Q.length:=⟨_,rfl⟩
            rw[<-aL]at aV e9;have aQ:=qQ e9;have H9:=qQ (qU em aV);clear al e9 aV aL em r7 aO k7 X aP af;go_wp2_with (first|(at_builtin;refine yC rfl _ _ rfl rfl rfl aQ.out ?_)|fail);go_roundw
            case rel=>exact⟨t-(V:Nat),fa,N9,A9,n9,c9,by omega,by omega,rfl,by go_num,by have:=H9.out.1;omega,H9.out.2⟩
            case measure=>simp[intOf];omega
           ·have s5:¬t≥0:=a6;have ef:(P.drop (t+1).toNat).reverse=P.reverse:=(by rw[show(t+1).toNat=0 by omega,List.drop_zero]);rw[ef]at aj
            have gf:F=u:=by
             obtain⟨A',c',e,-⟩:=vl aj.row;rw[ab.out,<-List.length_reverse];exact(Value.slice.inj e).2.1
            subst gf;have aP:=qQ aj;clear ef aj;go_wp2;go_loopw [33] (fun p wx=>∃(o:Nat) (R:List jb),o<=F/2/\p=.int .i64 (o:Nat)/\dw P.reverse o R/\yu At U gd gl gx J hr hd S L chs D E2 wm R (.slice A7 F c7) ao N3 wx) (fun p _=>F-(intOf p).toNat)
            case atStart=>exact⟨0,P.reverse,qI _,rfl,dw.start _,aP.out⟩
            case round =>
             obtain⟨o,R,hf,rfl,aM,ak⟩:=hrel;have ei:R.length=F:=(by rw[aM.1,List.length_reverse,ab.out]);by_cases gb:o<F/2
             ·--D6{
              obtain⟨i6,f6⟩:∃i6:Nat,i6=F-1-o:=⟨_,rfl⟩
              have f8:o<i6:=(by omega);obtain⟨x,K⟩:∃x,R[o]? = some x:=⟨_,qE (by omega)⟩
              obtain⟨y,hy⟩:∃y,R[i6]? = some y:=⟨_,qE (by omega)⟩
              have a5:=ak.row;obtain⟨g,rfl,fR,f5,⟨a0,a1,a2,a3,a4⟩,⟨f0,f1,f2,f3,f4⟩⟩:=a5.cells K;obtain⟨g',I,-,-,⟨b0,b1,b2,b3,b4⟩,⟨h0,h1,h2,h3,h4⟩⟩:=a5.cells hy;obtain rfl:g=g':=(by injection I with I;injection I);have aC:=aM.step (j:=i6) (by rw[List.length_reverse,<-ab.out];omega) (by omega) K hy;have eu:=(a5.put (k:=o) (by omega) y).put (k:=i6) (by rw[List.length_set];omega) x;have ew:jP (jS (.slice (some ⟨g,0,none⟩) F c7)) wr (mq (mq wr g (o*5) y) g (i6*5) x):=((jP.refl _ wr).trans (XY wr g (o*5) y) (fun z hz=>qX (by rw[qH.1 hz];exact ja.2 rfl))).trans (XY _ g (i6*5) x) (fun z hz=>qX (by rw[qH.1 hz];exact ja.2 rfl));have al:=ak.over api (by have:=cy.out;omega) d2.out (eu.below (qG _ _).drew (qK _)) ew.drew;have X:=qQ (qU aC al);have hD:(o:Int)<(F:Int):=(by omega);have s7:(F:Int)-1-(o:Int)<(F:Int):=(by omega);have s8:0<=(F:Int)-1-(o:Int):=(by omega);have HJ:=qQ gb;obtain⟨xs,xv,⟨xt,xd,xb⟩⟩:=x;obtain⟨ys,yv,⟨yt,yd,yb⟩⟩:=y;unfold mq at X;simp only at X;simp only at a0 a1 a2 a3 a4 b0 b1 b2 b3 b4;clear aC eu ew al K hy aM ak a5 I fR f5 ei f8;subst f6;go_wp2;go_region
              obtain⟨w9,ey⟩:∃w9,w9=((((((((((wr.setCell ⟨g,o*5,none⟩ (.string ys)).setCell ⟨g,o*5+1,none⟩ (.int .i64 yv)).setCell ⟨g,o*5+2,none⟩ (.string yt)).setCell ⟨g,o*5+3,none⟩ (.string yd)).setCell ⟨g,o*5+4,none⟩ (.float .f64 yb)).setCell ⟨g,(F-1-o)*5,none⟩ (.string xs)).setCell ⟨g,(F-1-o)*5+1,none⟩ (.int .i64 xv)).setCell ⟨g,(F-1-o)*5+2,none⟩ (.string xt)).setCell ⟨g,(F-1-o)*5+3,none⟩ (.string xd)).setCell ⟨g,(F-1-o)*5+4,none⟩ (.float .f64 xb)).drew:=⟨_,rfl⟩
              rw[<-ey]at X ⊢;clear ey a0 a1 a2 a3 a4 b0 b1 b2 b3 b4 f0 f1 f2 f3 f4 h0 h1 h2 h3 h4;go_wp2;go_roundw
              case rel=>exact⟨o+1,_,by have:=HJ.out;omega,by go_num,X.out.1,X.out.2⟩
              case measure=>simp[intOf];omega
             ·have aC:=aM.done (by rw[List.length_reverse,<-ab.out];omega);rw[List.reverse_reverse]at aC;rw[aC]at ak;have hk:=ak.kept;have ca:∀x∈P,x.e.b<18446744073709551616:=fun x K=>e5.out x (by rw[an.out]at K;exact(pC.1 K).1)
              have co:=hk.x8 aF.out.2.2.1 (fun b f=>av.out.1 b (ae.out.2 b f));have eY:=qQ (FY co.xH (hk.x8 aF.out.2.2.2 av.out.2).xH (by rw[<-ab.out];omega) ca);have eZ:=qQ (fun W' (hW:Below wr.1.size wr W')=>FY (co.below hW (qK _)).xH (ak.row.below hW (qK _)).xH (by rw[<-ab.out];omega) ca);have ba:=qQ (fun W' (hW:Below wr.1.size wr W')=>qU (((ak.st.below api hW).less (E':=E0) (fun b f=>qJ _ (av.out.1 b (ae.out.1 b f))))) (qU ((hk.x7 aF.out.1 (fun b f=>av.out.1 b (ae.out.1 b (aa.out.2 b f)))).below hW (qK _)) ((hk.x8 aF.out.2.1 (fun b f=>av.out.1 b (ae.out.1 b (aa.out.1 b f)))).below hW (qK _))));have fn:ao<=6000000+3000000*(j+1):=pg_count fs ft db.out fy;clear aC aM ak hk co ca ei
              go_wp2_with (first
               | (go_at_call 22;((with_reducible refine KG eY.out fun w8 b8=>?_);have a9:=qQ b8;clear b8))
               | (go_at_call 22;((with_reducible refine KG (eZ.out _ a9.out) fun w9 b9=>?_);have eG:=qQ b9;clear b9))
               | fail)
              have a_:=qQ (a9.out.trans (eG.out.mono a9.out.size));go_roundw
              case rel=>exact⟨j+1,ao,by omega,by go_num,fn,by rw[<-b6];exact(ba.out _ a_.out).1,(ba.out _ a_.out).2.1,(ba.out _ a_.out).2.2⟩
              case measure=>simp[intOf];omega
     ·obtain rfl:j=m:=(by omega);have s2:¬(j:Int)<(j:Int):=(by omega);have cR:=qQ (da.out.trans ((au.out.trans (hA.base.mono au.out.size)).mono ev));clear hA b_ bv
      go_wp2_with (first
       | (go_at_call 7;((with_reducible refine KG (d7.out _) fun w4 b4=>?_);have eE:=qQ b4;clear b4))
       | fail)
      go_ret;exact⟨rfl,cR.out.trans (eE.out.mono cR.out.size)⟩
end StPgW
end
end
section
open Go.RowKit Go.Shelf
section
variable {At:j6}(api:j8 At){w0 w w':World}{gd gl gx r:Nat}{S S':IxS}{L:jq}{chs:List (List Tw)}{D D':jL}{E E' B:List Nat}
theorem gu.xL(api:j8 At)(h:gu At w0 gd gl gx r S L chs D E w)(g:jP B w w')(c:∀b∈B,b∈E/\w0.1.size<=b)(f:∀b∈E',b∈E∨(w.1.size<=b/\b<w'.1.size)):gu At w0 gd gl gx r S L chs D E' w':=by
 have j:=h.ix.lt gl qC;have i:gl ∉ B:=fun d=>h.xD (c gl d).1
 refine⟨h.ix.xL api g (fun b a=>⟨qF _ (c b a).1,(c b a).2⟩) (fun b a=>?_),h.log.xC g i,fun d=>?_,h.low,h.ok,h.fl,h.xF,h.gl⟩
 ·rcases qM.1 a with e|k
  ·rw[e];exact qX qC
  ·exact(f b k).imp (qF _) id
 ·rcases f gl d with k|k
  ·exact h.xD k
  ·omega
theorem gu.more(api:j8 At)(h:gu At w0 gd gl gx r S L chs D E w)(a:Below w.1.size w w')(c:∀b∈B,w.1.size<=b/\b<w'.1.size):gu At w0 gd gl gx r S L chs D (B++E) w' :=
 h.xL api (B:=[]) (jP.xA a) (fun b a=>by cases a) (fun b a=>(qD.1 a).elim (fun k=>qY (c b k)) qX)
theorem qYx(h:ke At w0 gd gl L chs D E w):Calls prog 66 #[ptr gl] w (X0 (.int .i64 (kz chs:Nat)) w):=by
 have:=Yq (v:=((kz chs:Nat):Int)) (h.st.2.1.cell 0) (by rw[<-h.gl.endp];exact h.st.2.1.cell 4);exact this
theorem FO(api:j8 At)(nap:kZ)(h:fx At w0 gd gl L D E w)(ok:WfP D)(g:D.count<=1000000000)(f:L.chunks<=200):
  Calls prog 80 #[ptr gl,.int .i64 (-1)] w fun e w'=>∃k:Nat,k≠1/\e=.returned (.tuple #[.string ByteArray.empty,k])/\fx At w0 gd gl L D E w'/\jM E w w':=by
 have a:∃k:Nat,k≠1/\lr D L (-1)=(ByteArray.empty,k,D):=by
  unfold lr;by_cases q:vu D L≠0
  ·rw[qV q];refine⟨vu D L, ?_,rfl⟩;unfold vu;split
   ·decide
   ·split<;>decide
  ·rw[qZ q,qV (qX (by decide))];exact⟨4,by decide,rfl⟩
 obtain⟨k,i,a⟩:=a;refine(h.call api (v:=.tuple #[.string ByteArray.empty,k]) (D':=D) (L':=L) (fun c j d=>?_)).mono ?_
 ·have:=Jb api nap j d ok g (-1) (by decide) f;rw[a]at this;exact this
 ·rintro e w'⟨rfl,b,l⟩;exact⟨k,i,rfl,b,l⟩
def K8(At:j6)(w0:World)(gd gl r seed:Nat)(L:jq)(chs:List (List Tw))(D:jL)(E:List Nat)(w:World)(e:Ending)(w':World):Prop :=
 (∃gx T j,e=.returned (.tuple #[ptr gx,.bool true])/\yM D=0/\(kK D).seed=seed/\(kK D).check<=(kz chs:Nat)/\T.map (fun t=>(t.n:Int))=(kK D).lv.flatten/\(∀t∈T,vo D t.n t.l)/\j<=81/\gu At w0 gd gl gx r ⟨kK D,T,[]⟩ L chs { D with count:=D.count+j } E w'/\jM E w w') ∨
 (∃j,e=.returned (.tuple #[.pointer none,.bool false])/\(yM D≠0∨(kK D).seed≠seed∨((kz chs:Nat):Int)<(kK D).check∨∃x∈(kK D).lv.flatten,kS D x≠0)/\j<=81/\ke At w0 gd gl L chs { D with count:=D.count+j } E w'/\jM E w w')
theorem FP(api:j8 At)(nap:kZ)(iap:gq At)(h:ke At w0 gd gl L chs D E w)(am:D.count<=810000000)(af:yM D=0->kF (kK D)/\∀x∈(kK D).lv.flatten,kS D x=0->(tgL (rdW D (ptT x)).1).length<=10000)(seed r:Nat):
  Calls prog 81 #[ptr gd,ptr gl,.int .u64 (seed:Nat),.float .f64 r] w (K8 At w0 gd gl r seed L chs D E w):=by
 have hd:=h.fl.up.down;have u:=qVh iap h (by omega);unfold kD at u;have u:=qQ u;have O:=qQ af;have Q:=qQ (fun(j:Nat) (x:Int)=>qU (qVE hd (vM.count D (D.count+j)) x) (Dg hd (vM.count D (D.count+j)) (ptT x)).1);have V:=qQ (fun gx T j e w' (q:e=.returned (.tuple #[ptr gx,.bool true])/\yM D=0/\(kK D).seed=seed/\(kK D).check<=(kz chs:Nat)/\T.map (fun t:TbS=>(t.n:Int))=(kK D).lv.flatten/\(∀t∈T,vo D t.n t.l)/\j<=81/\gu At w0 gd gl gx r ⟨kK D,T,[]⟩ L chs { D with count:=D.count+j } E w'/\jM E w w')=>(show K8 At w0 gd gl r seed L chs D E w e w' from qX ⟨gx,T,j,q⟩));have p:=qQ (fun j e w' (q:e=.returned (.tuple #[.pointer none,.bool false])/\(yM D≠0∨(kK D).seed≠seed∨((kz chs:Nat):Int)<(kK D).check∨∃x∈(kK D).lv.flatten,kS D x≠0)/\j<=81/\ke At w0 gd gl L chs { D with count:=D.count+j } E w'/\jM E w w')=>(show K8 At w0 gd gl r seed L chs D E w e w' from qY ⟨j,q⟩));have M:=qQ (fun(j:Nat) W (q:ke At w0 gd gl L chs { D with count:=D.count+j } E W)=>qYx q);clear h af hd;generalize yM D=H at*;generalize kK D=lm at*;obtain⟨J,o,g,R⟩:=lm;simp only at O V p;have ah:∃v,v=kz chs:=⟨_,rfl⟩
 obtain⟨v,ae⟩:=ah;rw[<-ae]at V p M;clear ae;go_enter func81,ntmps81;go_wp2_with fail;refine u.out.mono ?_;rintro e f⟨y0,y1,y2,A,n,c,R',j,rfl,hM,hn,hv,al,an,ak,hj,h1,k1⟩;obtain⟨rfl,rfl,rfl,rfl⟩:=ji.mk.inj hM;subst hn;have G:=(qG f.1.size f).alloc (qK _) (.cells #[J,o,.int .u64 (g:Nat),.slice A R.length c] 47);have i:=jN.new f 47 #[J,o,.int .u64 (g:Nat),.slice A R.length c];have F:=h1.below api G;have k2:=k1.trans (jM.xA G (fun x d=>h1.lt x (qF _ d)));have ac:=hv.below G (qK _);obtain⟨a,aj⟩:∃a,f.alloc (.cells #[J,o,.int .u64 (g:Nat),.slice A R.length c] 47)=a:=⟨_,rfl⟩
 rw[aj]at F k2 i ac;have z0:=i.cell 0;have z1:=i.cell 1;have z2:=i.cell 2;have z3:=i.cell 3;have s:=qQ (qU F (qU k2 (qU ac i)));have K:=qQ (fun k=>(M.out j (a.drewN k) (F.below api (uu (qG _ _) k))).mono fun _ _ q=>qU q.1 q.2.symm);clear F k2 G h1 k1 u hv ac i M hM;have b:Hid (∀(nq:Nat),ke At w0 gd gl L chs { D with count:=D.count+j } E (a.drewN nq)/\jM E w (a.drewN nq)):=qQ fun nq=>⟨s.out.1.below api (uu (qG _ _) nq),s.out.2.1.trans (jM.xA (uu (qG _ _) nq) (fun x d=>s.out.1.lt x (qF _ d)))⟩
 by_cases c1:H=0
 case neg =>
  have C:¬(H:Int)=0:=by omega
  have q1:((H:Int)==0)=false:=qg.2 C;have q2:((H:Int) != 0)=true:=by rw[bne,q1];rfl
  go_wp2;go_quiet (fail);go_wp2;go_ret2;exact p.out j _ _ ⟨rfl,qX c1,by omega,(b.out _).1,(b.out _).2⟩
 subst c1;by_cases c2:g=seed
 case neg =>
  have C:¬(g:Int)=(seed:Int):=by omega
  have q1:((g:Int)==(seed:Int))=false:=qg.2 C;have q2:((g:Int) != (seed:Int))=true:=by rw[bne,q1];rfl
  go_wp2;go_quiet (fail);go_wp2;go_ret2;exact p.out j _ _ ⟨rfl,qY (qX c2),by omega,(b.out _).1,(b.out _).2⟩
 subst c2;by_cases X:(v:Int)<o
 case pos =>
  have C:decide ((v:Int)<o)=true:=qB X;go_wp2;go_quiet ((go_at_call 66;exact Calls.quiet_of_same (K.out _)));go_wp2;go_ret2;exact p.out j _ _ ⟨rfl,qY (qY (qX X)),by omega,(b.out _).1,(b.out _).2⟩
 have C:decide ((v:Int)<o)=false:=qA X;obtain⟨m1,m2⟩:=O.out rfl;have U:=qQ (fun(W:World) (hW:ke At w0 gd gl L chs { D with count:=D.count+j } E W) (hV:km W (.slice A R.length c) R)=>Di api nap hW (by show D.count+j<=_;omega) m1 ak hV (fun x d h0=>by rw[(Q.out j x).2];exact m2 x d (by rw[<-(Q.out j x).1];exact h0)) r);unfold kD at U;clear m1 m2 O;go_wp2;go_quiet ((go_at_call 66;exact Calls.quiet_of_same (K.out _)));rename_i nq _;have ao:(a.drewN nq).cell? ⟨f.1.size,0,none⟩=some (.int .i64 J):=z0;have ap:(a.drewN nq).cell? ⟨f.1.size,1,none⟩=some (.int .i64 o):=z1;have aq:(a.drewN nq).cell? ⟨f.1.size,2,none⟩=some (.int .u64 (g:Nat)):=z2;have ar:(a.drewN nq).cell? ⟨f.1.size,3,none⟩=some (.slice A R.length c):=z3;have P:=qQ (U.out _ (b.out nq).1 (s.out.2.2.1.below (uu (qG _ _) nq) (qK _)));have ad:=qQ (b.out nq).2;clear z0 z1 z2 z3 b U s K;generalize a.drewN nq=wq at*;go_wp2_with fail;refine P.out.mono ?_;rintro e w4 (⟨gx,T,m,rfl,hT,hH,ai,y,z⟩|⟨x,m,d,aa,ai,rfl,y,z⟩)
 ·have N:=qQ (qU hT (qU hH (qU y z)));clear hT hH y z P;go_wp2;go_ret2;obtain⟨Y,Z,f3,f4⟩:=N.out;refine V.out gx T (j+m) _ _ ⟨rfl,trivial,trivial,by omega,Y,Z,by omega, ?_,ad.out.trans f4⟩;rw[show D.count+(j+m)=D.count+j+m by omega];exact f3
 ·have ab:=aa;rw[(Q.out j x).1]at ab;have N:=qQ (qU d (qU ab (qU y z)));obtain⟨I,ag⟩:∃I,I=kS { D with count:=D.count+j } x:=⟨_,rfl⟩
  rw[<-ag]at aa ⊢;have q5:¬(I:Int)=0:=by omega
  have q6:((I:Int)==0)=false:=qg.2 q5;clear d aa ab y z P ag;go_wp2;go_ret2;obtain⟨Y,Z,f3,f4⟩:=N.out;refine p.out (j+m) _ _ ⟨rfl,qY (qY (qY ⟨x,Y,Z⟩)),by omega, ?_,ad.out.trans f4⟩;rw[show D.count+(j+m)=D.count+j+m by omega];exact f3
theorem qYz(api:j8 At)(nap:kZ)(h:ke At w0 gd gl L chs D E w)(U:D.count<=850000000)(seed r:Nat)(O:seed<18446744073709551616):
  Calls prog 82 #[ptr gd,.int .u64 (seed:Nat),.float .f64 r] w fun e w'=>∃gx D',e=.returned (.tuple #[ptr gx,.int .i64 0])/\gu At w0 gd gl gx r ⟨cD seed,[],[]⟩ L chs D' E w'/\jM E w w'/\D'.xB=D.xB/\D'.cap=D.cap/\D'.count<=D.count+80/\j4 D'.l<=j4 D.l/\jT D'.l j7=none:=by
 have m:Hid (Calls prog 125 #[ptr gd,.string ⟨#[109,97,112]⟩] w _):=qQ (qVl api h j7 D8 (by decide))
 have s:=qQ (fun(D':jL) (W:World) (Q:D'.count=D.count) (M:ke At w0 gd gl L chs D' E W)=>(show Calls prog 133 #[ptr gd,.agg #[.int .i64 0,.int .i64 0,.int .u64 (seed:Nat),.slice none 0 0],.float .f64 r] W _ from
  Di api nap (n:=0) (c:=0) (d:=seed) (A:=none) (cp:=0) (R:=[]) M (by omega) (qVp seed) O (km.nil W none 0) (fun x i=>by cases i) r))
 clear h;go_enter func82,ntmps82;go_wp2_with fail;refine m.out.mono ?_;rintro e P⟨f,a,rfl,g,t,F,k,C,z,-⟩;have y:jT a.l j7=none:=pG fun q=>((z j7).1 q).2 rfl
 have p:=qQ (s.out a P k.count t);have H:=qQ (qU F (qU k (qU C y)))
 have N:f=0∨f=4:=by
  unfold cO at g;simpa using g
 clear t F k C z y g m s;rcases N with rfl|rfl
 all_goals
  go_wp2_with fail;refine p.out.mono ?_;rintro e X (⟨gx,T,j,rfl,v,-,V,u,G⟩|⟨x,j,i,-⟩);rotate_left
  ·cases i
  obtain rfl:T=[]:=List.map_eq_nil_iff.1 v;have o:=qQ (qU u G);clear u G v p;go_wp2;go_ret2;obtain⟨I,b,J,K⟩:=H.out;exact⟨gx,_,rfl,o.out.1,I.trans o.out.2,b.xB,b.cap,by show a.count+j<=_;have:=b.count;omega,J,K⟩
end
section
variable {At:j6}(api:j8 At)(nap:kZ)(cap:v8){w0 w:World}{gd gl gx r seed:Nat}{S:IxS}{L:jq}{chs:List (List Tw)}{D:jL}{E:List Nat}
include api nap cap
theorem qYj(h:jw At w0 gd gl gx r S L chs D E w)(a:D.count<=900000000)(pos:Nat)(g:pos<=2147483647)(b:(jR 0 chs).find? (fun x=>decide (pos<=x.1))=none):
  Calls prog 43 #[ptr gl,pos] w fun e w'=>e=.returned (.tuple #[.string ByteArray.empty,.int .i64 0,.int .i64 0,.int .i64 4])/\∃k,k<=D.count+200/\jw At w0 gd gl gx r S L chs { D with count:=k } E w'/\jM E w w':=by
 refine(KL api nap cap h a pos (by omega)).mono ?_;rintro e w'⟨k,c,rfl,d,f⟩;rw[b];exact⟨rfl,k,c,d,f⟩
theorem qYk(h:jw At w0 gd gl gx r S L chs D E w)(a:D.count<=900000000)(pos:Nat)(g:pos<=2147483647){q:Nat}{p:Tw}(b:(jR 0 chs).find? (fun x=>decide (pos<=x.1))=some (q,p)):
  Calls prog 43 #[ptr gl,pos] w fun e w'=>e=.returned (.tuple #[p,q,.int .i64 (vV (q,p):Nat),.int .i64 0])/\∃k,k<=D.count+200/\jw At w0 gd gl gx r S L chs { D with count:=k } E w'/\jM E w w':=by
 refine(KL api nap cap h a pos (by omega)).mono ?_;rintro e w'⟨k,c,rfl,d,f⟩;rw[b];exact⟨rfl,k,c,d,f⟩
omit api nap cap in
theorem qYv{D:jL}(g:ku D chs){x:Rec}(b:x∈jR 0 chs):vV x<=900000:=by
 have d:=((lH chs 0 (fun c a=>(g.small c a).1)).2 x b).2;have:=g.many;omega
theorem qYy(h:jw At w0 gd gl gx r S L chs D E w)(ao:S.mem=[])(f:Nat)(aE:f<=900000)(n:Int)(A:Option Addr)(k cp:Nat)(hs:seed<18446744073709551616)(hw:∀x∈jR 0 chs,vZ x.2=true)(an:(yI seed (jR 0 chs)).length<=1000)(aL:D.count<=850000000):
  Calls prog 84 #[ptr gx,ptr gl,.agg #[n,f,.int .u64 (seed:Nat),.slice A k cp]] w fun e w'=>e=.returned (.int .i64 0)/\∃S' c',jw At w0 gd gl gx r S' L chs { D with count:=c' } E w'/\jM E w w'/\S'.m=S.m/\S'.T=S.T /\
   (∀y,y∈S'.mem↔∃x∈jR 0 chs,(f:Int)<=(x.1:Int)/\y∈yV seed x)/\c'<=D.count+200*((jR 0 chs).length+1):=by
 have g:=h.xF
 have H:(jR 0 chs).length<=200000:=by
  have v:=(lH chs 0 (fun U P=>(g.small U P).1))
  have j:=Bc chs (fun U P=>(g.small U P).1);have M:=sb g
  have h4:∀(l:List Rec) (a:Nat),bC l->(∀x∈l,a<=x.1)->(∀x∈l,vV x<=819200)->a+12*l.length<=819200+a:=by
   intro l
   induction l with
   | nil=>intro a _ _ _;simp
   | cons x l ih =>
     intro a hr ha O;have aa:=xU.1 hr;have:=ih a aa.2 (fun y I=>ha y (qF _ I)) (fun y I=>O y (qF _ I))
     have aD:∀(l:List Rec) (b:Nat),bC l->(∀y∈l,b<=y.1)->(∀y∈l,vV y<=819200)->b<=819200->b+12*l.length<=819200:=by
      intro l
      induction l with
      | nil=>intro b _ _ _ hb;simpa using hb
      | cons z l aJ =>
        intro b hr hb O aK;have aa:=xU.1 hr;have hz:=O z qC;have aM:=hb z qC;have aN:z.1+12<=vV z:=(by unfold vV;omega);have:=aJ (vV z) aa.2 aa.1 (fun y I=>O y (qF _ I)) hz;rw[qu];omega
     have:=aD (x::l) 0 hr (fun y I=>qI _) O (by omega);omega
  have h5:∀x∈jR 0 chs,vV x<=819200:=fun x d=>by
   have:=(v.2 x d).2;have:=g.many;omega
  have:=h4 (jR 0 chs) 0 v.1 (fun x d=>qI _) h5;omega
 have u:=(lH chs 0 (fun U P=>(g.small U P).1)).1;have ad:=(qG w.1.size w).alloc (qK _) (.cells #[n,f,.int .u64 (seed:Nat),.slice A k cp] 47);have N:=jN.new w 47 #[n,f,.int .u64 (seed:Nat),.slice A k cp];have v:=h.more api ad (B:=[w.1.size]) (fun x d=>by rw[qH.1 d];exact⟨qK _,N.lt⟩);have ae:=(jM.xA ad (fun x d=>h.lt x (qF _ d)):jM E w _)
 obtain⟨w1,aI⟩:∃w1,w.alloc (.cells #[n,f,.int .u64 (seed:Nat),.slice A k cp] 47)=w1:=⟨_,rfl⟩
 rw[aI]at N v ae;have k1:=N.cell 1;have H1:=qQ v;have az:=qQ ae;have aw:=qQ N;have HG:=qQ g;have HW:=qQ hw;have ax:=qQ an;have aB:=qQ ao;have aA:=qQ H;have aC:=qQ u;obtain⟨R,o⟩:∃R,R=jR 0 chs:=⟨_,rfl⟩
 have i:=qQ o;clear ad N v ae h g hw an ao H u o;go_enter func84,ntmps84;go_wp2
 go_loopw [7] (fun p wr=>∃(pos c:Nat) (S':IxS),p=.int .i64 pos/\f<=pos/\pos<=900000/\jw At w0 gd gl gx r S' L chs { D with count:=c } ([w.1.size]++E) wr/\jM E w wr/\jN wr w.1.size 47 #[n,f,.int .u64 (seed:Nat),.slice A k cp] /\
  S'.m=S.m/\S'.T=S.T/\di seed R f pos S'.mem/\c+200*pB R pos<=D.count+200*R.length) (fun p _=>pB R (intOf p).toNat)
 case atStart =>
  refine⟨f,D.count,S,rfl,qK _,aE,H1.out,az.out,aw.out,rfl,rfl, ?_, ?_⟩
  ·rw[aB.out];exact di.start seed R f
  ·have:=Dv R f;omega
 case round =>
  obtain⟨pos,c,S',rfl,al,aG,o,W,ac,hm,X,hF,Z⟩:=hrel;have H:=aA.out;rw[<-i.out]at H;have ar:=Dv R pos;have Y:c<=900000000:=by omega
  cases t:R.find? (fun x=>decide (pos<=x.1)) with
  | none =>
    have C:=t;rw[i.out]at C;have G:=qQ (qYj api nap cap o Y pos (by omega) C);have HD:=qQ (hF.done t);have F:=qQ (qU hm (qU X (qU W Z)));clear o W ac hm X hF Z t C Y ar H k1 al aG;go_wp2_with fail;refine G.out.mono ?_;rintro e w2⟨rfl,c2,s,j,J⟩;have K:=qQ (qU s (qU (j.less (fun x d=>qJ _ d):jw At w0 gd gl gx r S' L chs { D with count:=c2 } E w2) (J.less (fun x d=>qJ _ d):jM E wr w2)));clear j J s G;go_wp2;go_ret;obtain⟨m1,m2,m3,m4⟩:=F.out;obtain⟨V,f2,f3⟩:=K.out;have V:c2<=c+200:=V;refine⟨rfl,S',c2,f2,m3.trans f3,m1,m2, ?_, ?_⟩
    ·rw[<-i.out];exact HD.out
    ·rw[<-i.out];omega
  | some x =>
    obtain⟨q,p⟩:=x;have C:=t;rw[i.out]at C;have u:=aC.out;rw[<-i.out]at u;have hst:=qVD u t;obtain⟨au,av,-⟩:=KC u t;have Q:=au;rw[i.out]at Q;have am:=qYv HG.out Q;have aq:q<vV (q,p):=by unfold vV;simp only;omega
    have aF:S'.mem.length<=1000:=by
     have v:=hF.len o.ok.xI;have j:=ax.out;rw[<-i.out]at j;omega
    have G:=qQ (qYk api nap cap o Y pos (by omega) C);have ah:=qQ (fun(w3:World) (c3:Nat) (M:jw At w0 gd gl gx r S' L chs { D with count:=c3 } ([w.1.size]++E) w3)=>qVy (p:=p) api M hs (HW.out _ Q) (KD HG.out Q) (by omega:q<=2147483647) (by omega));have aj:=qQ (fun(M':List jI) (hM:∀y,y∈M'↔y∈S'.mem∨y∈yV seed (q,p))=>hF.step u t al hM);have F:=qQ (qU hm (qU X (qU W ac)));have aH:pos<vV (q,p):=Nat.lt_of_le_of_lt av aq;obtain⟨ag,ap⟩:∃ag,ag=vV (q,p):=⟨_,rfl⟩
    rw[<-ap]at G aj hst am aH;have ai:=qQ (qU hst Z);clear o W ac hm X hF Z t C Y ar H k1 u au Q av aq aF ap hst;go_wp2_with fail;refine G.out.mono ?_;rintro e w2⟨rfl,c2,s,j,J⟩;have ab:=J.xW F.out.2.2.2 (qW _ qC);have k2:=ab.cell 2;have HA:=qQ (ah.out w2 c2 j);have K:=qQ (qU s (qU ab (F.out.2.2.1.trans (J.less (fun x d=>qJ _ d)))));clear j J s ab G ah;go_wp2_with fail;refine HA.out.mono ?_;rintro e w3⟨rfl,S3,M,af,ak⟩;have ay:=qQ (qU M (qU (af.xW K.out.2.1 (qW _ qC)) (qU (K.out.2.2.trans (af.less (fun x d=>qJ _ d))) ak)));clear M af ak HA k2;go_wp2;go_roundw
    case rel =>
     obtain⟨V,f2,f3,f4⟩:=ay.out;obtain⟨s1,s2⟩:=ai.out;have s:=K.out.1;have s:c2<=c+200:=s;refine⟨ag,c2,S3,by go_num,by omega,am,V,f3,f2,f4.m.trans F.out.1,f4.T.trans F.out.2.1,aj.out _ (fun y=>?_),by omega⟩;rw[f4.mem,<-Dt seed (q,p),List.take_length]
    case measure =>
     have:=ai.out.1;simp[intOf];omega
end
section
variable {At:j6}(api:j8 At){w0 w w':World}{gd gl gx r seed:Nat}{S S':IxS}{L:jq}{chs:List (List Tw)}{D D':jL}{E E' B:List Nat}
structure K9(At:j6)(w0:World)(gd gl gx r seed:Nat)(S:IxS)(L:jq)(chs:List (List Tw))(D:jL)(E:List Nat)(w:World)(S':IxS)(D':jL)(w':World):Prop where
 sx:jw At w0 gd gl gx r S' L chs D' E w'
 kept:jM E w w'
 m:S'.m=S.m
 T:S'.T=S.T
 mem:∀y,y∈S'.mem↔∃x∈jR 0 chs,S.m.check<=(x.1:Int)/\y∈yV seed x
 cap:D'.cap=D.cap
 xB:D'.xB=D.xB
 count:D'.count<=D.count+200*((jR 0 chs).length+1)
 used:j4 D'.l<=j4 D.l
 map:jT D'.l j7=jT D.l j7
theorem FR(api:j8 At)(h:gu At w0 gd gl gx r S L chs D E w):Calls prog 31 #[ptr gx] w (lP w S.m.next S.m.check S.m.seed S.m.lv):=qKF api h.ix h.ok
end
section
variable {At:j6}(api:j8 At)(nap:kZ)(iap:gq At)(cap:v8){w0 w w':World}{gd gl gx r seed:Nat}{S S':IxS}{L:jq}{chs:List (List Tw)}{D D':jL}{E E' B:List Nat}
def sh(At:j6)(w0:World)(gd gl gx r seed:Nat)(S:IxS)(L:jq)(chs:List (List Tw))(D:jL)(E:List Nat)(w:World):Prop :=
 ∀a A c,vB a w.1.size (.slice A S.m.lv.length c) S.m.lv->Below w.1.size w a ->
  let w2:=a.alloc (.cells #[S.m.next,S.m.check,.int .u64 (S.m.seed:Nat),.slice A S.m.lv.length c] 47)
  Calls prog 83 #[ptr gd,.agg #[S.m.next,S.m.check,.int .u64 (S.m.seed:Nat),.slice A S.m.lv.length c]] w2 fun e b=>e=.returned (.int .i64 0) /\
   jN b a.1.size 47 #[S.m.next,S.m.check,.int .u64 (S.m.seed:Nat),.slice A S.m.lv.length c] /\
   Calls prog 84 #[ptr gx,ptr gl,.agg #[S.m.next,S.m.check,.int .u64 (S.m.seed:Nat),.slice A S.m.lv.length c]] b fun e d=>e=.returned (.int .i64 0)/\∃S' D',K9 At w0 gd gl gx r seed S L chs D E w S' D' d
include api nap iap cap in
theorem FS(h:gu At w0 gd gl gx r S L chs D E w)(N:S.mem=[])(R:S.m.seed=seed)(g:Nat)(F:S.m.check=(g:Nat))(C:g<=900000)(hw:∀x∈jR 0 chs,vZ x.2=true)(H:(yI seed (jR 0 chs)).length<=1000)(Y:D.count<=840000000)(Q:seed<18446744073709551616)(K:S.m.lv.length<=100000):
  sh At w0 gd gl gx r seed S L chs D E w:=by
 intro d A c P k;obtain⟨G,o,J⟩:=P.keep;have l:=h.more api k (B:=G) (fun b i=>o b i);have j:=(qG d.1.size d).alloc (qK _) (.cells #[S.m.next,S.m.check,.int .u64 (S.m.seed:Nat),.slice A S.m.lv.length c] 47);have n:=jN.new d 47 #[S.m.next,S.m.check,.int .u64 (S.m.seed:Nat),.slice A S.m.lv.length c];have u:=l.more api j (B:=[d.1.size]) (fun x a=>by rw[qH.1 a];exact⟨qK _,n.lt⟩);have M:gz (d.alloc (.cells #[S.m.next,S.m.check,.int .u64 (S.m.seed:Nat),.slice A S.m.lv.length c] 47)) (.slice A S.m.lv.length c) S.m.lv G:=J.step (jM.xA j (fun x a=>(o x a).2));have I:jM E w (d.alloc (.cells #[S.m.next,S.m.check,.int .u64 (S.m.seed:Nat),.slice A S.m.lv.length c] 47)):=(jM.xA k (fun x a=>h.ix.lt x (qF _ a))).trans (jM.xA j (fun x a=>l.ix.lt x (qF _ (qJ _ a))));intro w2;refine(qVm iap u (G:=G) (fun b i=>qF _ (qJ _ (qW _ i))) M rfl rfl K).mono ?_;rintro e w3⟨X,rfl,v,q,f,T,O⟩;have z:=q.xW n (qW _ qC);refine⟨rfl,z, ?_⟩;have p:=qYy api nap cap v N g C S.m.next A S.m.lv.length c Q hw H (by rw[f.count];omega);rw[<-F]at p;rw[R];refine p.mono ?_;rintro e w4⟨rfl,S',s,y,U,V,W,t,Z⟩;refine⟨rfl,S',_,⟨y.less (fun x a=>qJ _ (qJ _ a)),I.trans ((q.less (fun x a=>qJ _ (qJ _ a))).trans (U.less (fun x a=>qJ _ (qJ _ a)))),V,W,t,f.cap,f.xB, ?_,T,O⟩⟩;have:=f.count;show s<=_;omega
include api nap iap cap in
theorem qYu(h:ke At w0 gd gl L chs D E w)(ok:WfP D)(al:D.count<=800000000)(i:yM D=0->kF (kK D)/\∀x∈(kK D).lv.flatten,kS D x=0->(tgL (rdW D (ptT x)).1).length<=10000)
  (aa:¬(yM D≠0∨(kK D).seed≠seed∨((kz chs:Nat):Int)<(kK D).check∨∃x∈(kK D).lv.flatten,kS D x≠0)) (hw:∀x∈jR 0 chs,vZ x.2=true) (af:(yI seed (jR 0 chs)).length<=1000) (hs:seed<18446744073709551616):
  Calls prog 39 #[ptr gd,ptr gl,.int .u64 (seed:Nat),.float .f64 r] w fun e w'=>∃gx T S' D' j,e=.returned (.tuple #[ptr gx,.bool false,.int .i64 0])/\T.map (fun t=>(t.n:Int))=(kK D).lv.flatten/\(∀t∈T,vo D t.n t.l)/\j<=81/\jM E w w' /\
   ∃v,jM E w v/\K9 At w0 gd gl gx r seed ⟨kK D,T,[]⟩ L chs { D with count:=D.count+j } E v S' D' w':=by
 have Z:=h.xF.many;have O:=qQ (FO api nap h.st ok (by omega) (by rw[h.gl.x5];exact Z));have M:=qQ (fun W (f:fx At w0 gd gl L D E W)=>FP api nap iap (⟨f,h.fl,h.xF,h.gl⟩:ke At w0 gd gl L chs D E W) (by omega) i seed r);have ag:=sb h.xF;have ad:=qQ (fun q=>(i q).1);have P:=qQ aa
 have s:=qQ (fun(gx:Nat) (T:List TbS) (j:Nat) (W:World) (hj:j<=81) (ai:(kK D).seed=seed) (ak:(kK D).check<=((kz chs:Nat):Int)) (h0:yM D=0) (f:gu At w0 gd gl gx r ⟨kK D,T,[]⟩ L chs { D with count:=D.count+j } E W)=>(by
  have Y:=(i h0).1;have h3:=Y.2.2.1;obtain⟨u,ae⟩:∃u:Nat,(kK D).check=(u:Nat):=⟨(kK D).check.toNat,by omega⟩
  exact FS api nap iap cap f rfl ai u ae (by omega) hw af (by show D.count+j<=_;omega) hs (by have:=Y.2.2.2.2.1.1;simp only at this ⊢;omega):sh At w0 gd gl gx r seed ⟨kK D,T,[]⟩ L chs { D with count:=D.count+j } E W))
 unfold sh at s;have o:=qQ (fun(gx:Nat) (T:List TbS) (j:Nat) (W:World) (f:gu At w0 gd gl gx r ⟨kK D,T,[]⟩ L chs { D with count:=D.count+j } E W)=>FR api f);unfold lP kD at o;clear i aa h ag Z;go_enter func39,ntmps39;go_wp2_with fail;refine O.out.mono ?_;rintro e w1⟨k,hk,rfl,V,k1⟩;have q1:¬(k:Int)=1:=by omega
 have q2:((k:Int)==1)=false:=qg.2 q1;have K:=qQ (M.out w1 V);have ab:=qQ k1;clear V k1 O hk M;go_wp2_with fail;refine K.out.mono ?_;rintro e G (⟨gx,T,j,rfl,l1,l2,g,l4,l5,C,y,k2⟩|⟨j,rfl,ah,-⟩);rotate_left
 ·exact absurd ah P.out
 have m:=qQ (o.out gx T j G y);have p:=qQ (s.out gx T j G C l2 g l1 y);have I:=qQ (qU l4 (qU l5 (qU C (ab.out.trans k2))));clear l1 l2 g l4 l5 C y k2 K o s q1 q2 P ad;obtain⟨F,z⟩:∃F,F=kK D:=⟨_,rfl⟩
 rw[<-z]at m p I;obtain⟨x0,x1,x2,R⟩:=F;have ac:=qQ z;clear z;go_wp2_with fail;refine m.out.mono ?_;rintro e H⟨A,c,rfl,g,Q⟩;have b:=p.out H A c g Q;have a:=jN.new H 47 #[x0,x1,.int .u64 (x2:Nat),.slice A R.length c];obtain⟨w4,aj⟩:∃w4,H.alloc (.cells #[x0,x1,.int .u64 (x2:Nat),.slice A R.length c] 47)=w4:=⟨_,rfl⟩
 rw[aj]at b a;have b:=qQ b;have z0:=a.cell 0;have z1:=a.cell 1;have z2:=a.cell 2;have z3:=a.cell 3;clear g Q m p a;go_wp2_with fail;refine b.out.mono ?_;rintro e w5⟨rfl,d,X⟩;have J:=qQ X;have y0:=d.cell 0;have y1:=d.cell 1;have y2:=d.cell 2;have y3:=d.cell 3;clear X d b z0 z1 z2 z3;go_wp2_with fail;refine J.out.mono ?_;rintro e w6⟨rfl,S',D',hp⟩;have N:=qQ hp;clear hp J y0 y1 y2 y3;go_wp2;go_ret3;obtain⟨f1,f2,f3,U⟩:=I.out;rw[<-ac.out];exact⟨gx,T,S',D',j,rfl,f1,f2,f3,U.trans N.out.kept,G,U,N.out⟩
end
section
variable {At:j6}(api:j8 At)(nap:kZ)(iap:gq At)(cap:v8){w0 w w':World}{gd gl gx r seed:Nat}{S S':IxS}{L:jq}{chs:List (List Tw)}{D D':jL}{E E' B:List Nat}
include api nap iap cap in
theorem qYg(h:ke At w0 gd gl L chs D E w)(ok:WfP D)(ao:D.count<=800000000)(ag:yM D=0->kF (kK D)/\∀x∈(kK D).lv.flatten,kS D x=0->(tgL (rdW D (ptT x)).1).length<=10000)
  (ai:¬(yM D=0/\(kK D).seed=seed/\(kK D).check<=((kz chs:Nat):Int)/\∀x∈(kK D).lv.flatten,kS D x=0)) (hw:∀x∈jR 0 chs,vZ x.2=true) (al:(yI seed (jR 0 chs)).length<=1000) (hs:seed<18446744073709551616):
  Calls prog 39 #[ptr gd,ptr gl,.int .u64 (seed:Nat),.float .f64 r] w fun e w'=>∃gx S' D',e=.returned (.tuple #[ptr gx,.bool true,.int .i64 0])/\jM E w w' /\
   ∃v a,K9 At w0 gd gl gx r seed ⟨cD seed,[],[]⟩ L chs a E v S' D' w'/\a.xB=D.xB/\a.cap=D.cap/\a.count<=D.count+161/\j4 a.l<=j4 D.l/\jT a.l j7=none:=by
 have af:=h.xF.many;have ah:=h.fl.up.down;have O:=qQ (FO api nap h.st ok (by omega) (by rw[h.gl.x5];exact af));have J:=qQ (fun W (b:fx At w0 gd gl L D E W)=>FP api nap iap (⟨b,h.fl,h.xF,h.gl⟩:ke At w0 gd gl L chs D E W) (by omega) ag seed r)
 have P:=qQ (fun(gx:Nat) (T:List TbS) (j:Nat) (h0:yM D=0) (am:(kK D).seed=seed) (ak:(kK D).check<=((kz chs:Nat):Int)) (hT:T.map (fun t:TbS=>(t.n:Int))=(kK D).lv.flatten) (hH:∀t∈T,vo D t.n t.l)=>(ai ⟨h0,am,ak,fun x hx=>by
  rw[<-hT]at hx;obtain⟨t,ht,rfl⟩:=qP.1 hx;exact(sq ah (hH t ht)).1⟩:False))
 have C:=qQ (fun(j:Nat) (W:World) (s:j<=81) (b:ke At w0 gd gl L chs { D with count:=D.count+j } E W)=>qYz api nap b (by show D.count+j<=_;omega) seed r hs)
 have m:=qQ (fun(gx:Nat) (a:jL) (W:World) (o:a.count<=D.count+161) (b:gu At w0 gd gl gx r ⟨cD seed,[],[]⟩ L chs a E W) =>
  (FS api nap iap cap b rfl rfl 0 rfl (by omega) hw al (by omega) hs (qI _):sh At w0 gd gl gx r seed ⟨cD seed,[],[]⟩ L chs a E W))
 have i:=qQ (fun(gx:Nat) (a:jL) (W:World) (b:gu At w0 gd gl gx r ⟨cD seed,[],[]⟩ L chs a E W)=>FR api b);unfold sh at m;unfold lP kD at i;have aa:(cD seed).next=0:=rfl;have ab:(cD seed).check=0:=rfl;have ac:(cD seed).seed=seed:=rfl;have ad:(cD seed).lv=[]:=rfl;simp only[aa,ab,ac,ad,List.length_nil]at m i;clear ag ai h af aa ab ac ad ah;go_enter func39,ntmps39;go_wp2_with fail;refine O.out.mono ?_;rintro e w1⟨k,hk,rfl,Z,k1⟩;have q1:¬(k:Int)=1:=by omega
 have q2:((k:Int)==1)=false:=qg.2 q1;have I:=qQ (J.out w1 Z);have G:=qQ k1;clear Z k1 O hk J;go_wp2_with fail;refine I.out.mono ?_;rintro e w2 (⟨gx,T,j,rfl,l1,l2,l3,p,l5,-⟩|⟨j,rfl,-,s,h2,k2⟩)
 ·exact(P.out gx T j l1 l2 l3 p l5).elim
 have z:=qQ (C.out j w2 s h2);have H:=qQ (G.out.trans k2);clear h2 k2 I C q1 q2 P G;go_wp2_with fail;refine z.out.mono ?_;rintro e u⟨gx,a,rfl,q,k3,R,U,V,X,Y⟩
 have o:a.count<=D.count+161:=by
  have:a.count<=D.count+j+80:=V;omega
 have K:=qQ (i.out gx a u q);have N:=qQ (m.out gx a u o q);have aj:=qQ (qU (H.out.trans k3) (qU (show a.xB=D.xB from R) (qU (show a.cap=D.cap from U) (qU o (qU (show j4 a.l<=j4 D.l from X) Y)))));clear q k3 R U V X Y o z i m H s;go_wp2_with fail;refine K.out.mono ?_;rintro e y⟨A,c,rfl,p,Q⟩;have f:=N.out y A c p Q;have d:=jN.new y 47 #[.int .i64 0,.int .i64 0,.int .u64 (seed:Nat),.slice A 0 c];obtain⟨w5,an⟩:∃w5,y.alloc (.cells #[.int .i64 0,.int .i64 0,.int .u64 (seed:Nat),.slice A 0 c] 47)=w5:=⟨_,rfl⟩
 rw[an]at f d;have f:=qQ f;have z0:=d.cell 0;have z1:=d.cell 1;have z2:=d.cell 2;have z3:=d.cell 3;clear p Q K N d;go_wp2_with fail;refine f.out.mono ?_;rintro e w6⟨rfl,g,ae⟩;have F:=qQ ae;have y0:=g.cell 0;have y1:=g.cell 1;have y2:=g.cell 2;have y3:=g.cell 3;clear ae g f z0 z1 z2 z3;go_wp2_with fail;refine F.out.mono ?_;rintro e w7⟨rfl,S',D',hp⟩;have M:=qQ hp;clear hp F y0 y1 y2 y3;go_wp2;go_ret3;obtain⟨f1,f2,f3,f4,f5,f6⟩:=aj.out;exact⟨gx,S',D',rfl,f1.trans M.out.kept,u,a,M.out,f2,f3,f4,f5,f6⟩
end
end
section
open Go.RowKit Go.Shelf
theorem FT{D:jL}{n:Int}{l b:List jI}(h:vo D n l)(k:vo D n b):l=b:=by
 obtain⟨f,c,-,d⟩:=h;obtain⟨g,a,-,i⟩:=k;rw[c]at a;obtain rfl:=qb a;rw[<-d,<-i]
theorem qYt{At:j6}(api:j8 At)(nap:kZ)(iap:gq At)(cap:v8):nh At where
 keep:=by
  intro w0 w gd gl L chs D E seed r S h ok o g aa G C hr;have F:=h.fl.up.down;obtain⟨l1,k,-⟩:=qVU F ok.may ok.seed g.map;have H:(kK D).lv.flatten=S.m.lv.flatten:=by rw[k];exact qVW S.m
  have P:(kK D).check=S.m.check:=by rw[k];rfl
  have ab:(kK D).seed=S.m.seed:=by rw[k];rfl
  refine(qYu api nap iap cap h h.fl.up.wf C (fun _=>⟨by rw[k];exact YB ok.may,fun x d _=>?_⟩) ?_ o.whole G (by rw[<-o.sd];exact ok.seed)).mono ?_
  ·rw[H]at d;obtain⟨t,b,rfl⟩:=(ok.xR x).1 d;rw[(sq F (g.has t b)).2];exact aa t b
  ·rintro (q|q|q|⟨x,d,q⟩)
   ·exact q l1
   ·exact q (ab.trans o.sd)
   ·have:=o.check;rw[P]at q;omega
   ·rw[H]at d;obtain⟨t,b,rfl⟩:=(ok.xR x).1 d;exact q (sq F (g.has t b)).1
  ·rintro e w'⟨gx,T,S',D',j,rfl,p,N,hj,I,v,ad,a⟩;have s:S'.m=dP S.m:=a.m.trans k;have O:S'.T=T:=a.T;rw[H]at p
   have Y:T.length=S.T.length:=by
    have i:=congrArg List.length p;rw[qq]at i;have:=ok.many;omega
   have ac:∀t∈T,∃u∈S.T,u.l=t.l:=fun t b=>by
    have:(t.n:Int)∈S.m.lv.flatten:=(by rw[<-p];exact qP.2 ⟨t,b,rfl⟩);obtain⟨u,c,z⟩:=(ok.xR _).1 this;refine⟨u,c, ?_⟩;have f:=g.has u c;rw[z]at f;exact FT f (N t b)
   have Z:∀u∈S.T,∃t∈T,t.l=u.l:=fun u c=>by
    have:(u.n:Int)∈T.map fun t:TbS=>(t.n:Int):=by rw[p];exact(ok.xR _).2 ⟨u,c,rfl⟩
    obtain⟨t,b,z⟩:=qP.1 this;refine⟨t,b, ?_⟩;have f:=N t b;rw[z]at f;exact FT f (g.has u c)
   refine⟨gx,S',D',rfl,⟨a.sx,I, ?_,a.cap,a.xB, ?_,a.used⟩,⟨?_,fun t b=>a.sx.ok.has t b⟩,s⟩
   ·refine o.opened (by rw[s];rfl) (by rw[s];rfl) (fun y=>?_) (fun y=>?_) (by rw[O,Y];exact qK _)
    ·rw[O];constructor
     ·rintro ⟨t,b,J⟩;obtain⟨u,c,e⟩:=ac t b;exact⟨u,c,by rw[e];exact J⟩
     ·rintro ⟨u,c,J⟩;obtain⟨t,b,e⟩:=Z u c;exact⟨t,b,by rw[e];exact J⟩
    ·rw[a.mem];simp only[P]
   ·have:=a.count;simp only at this;omega
   ·have i:jT D'.l j7=jT D.l j7:=a.map;rw[i,g.map,s,YC]
 jE:=by
  intro w0 w gd gl L chs D E seed r h hw Q G C hs hr;refine(qYg api nap iap cap h h.fl.up.wf C (fun A=>?_) ?_ hw G hs).mono ?_
  ·rcases Q with q|⟨-,q1,q2,-⟩
   ·exact absurd A q
   ·exact⟨q1,q2⟩
  ·rintro ⟨A,i,f,X⟩;rcases Q with q|⟨-,-,-,q|q|⟨x,d,q⟩⟩
   ·exact q A
   ·exact q i
   ·omega
   ·exact q (X x d)
  ·rintro e w'⟨gx,S',D',rfl,I,v,D2,a,R,U,e3,V,W⟩;refine⟨gx,S',D',rfl,⟨a.sx,I,qVB hw (by rw[a.m];rfl) (by rw[a.m];rfl) a.T (fun y=>?_),a.cap.trans U,a.xB.trans R, ?_,qR a.used V⟩,a.map.trans W,a.T,a.m⟩
   ·rw[a.mem];exact⟨fun⟨x,K,_,M⟩=>⟨x,K,M⟩,fun⟨x,K,M⟩=>⟨x,K,by show(0:Int)<=_;omega,M⟩⟩
   ·have:=a.count;omega
end
end Go.Proofs.YthejglbnkmimjaaGreat

import Derived.Test.YtokbfellcadkpaaGreatPp37
import Derived.Test.YtokbfellcadkpaaGreatPp36
set_option linter.unusedVariables false
set_option maxRecDepth 100000
set_option maxHeartbeats 9000000
namespace Go.Proofs.YtokbfellcadkpaaGreat
open Tryz
section
open Go.RowKit Go.Shelf
def vP(D:jK)(n a:Nat)(m:j5):Nat × jK:=if a≠0 then(a,D) else if jo D n≠0 then(jo D n,ye D n) else yc (ye D n) m
noncomputable def Qk (D:jK)(n:Nat):TbS:=⟨n,tgL (rdW D (ptT n)).1,ldF (rdW D (ptT n)).2.2 n (tgL (rdW D (ptT n)).1)⟩
noncomputable def bQ (S:IxS)(D:jK)(n b:Nat)(R:LvL)(a:Int):IxS:=if (vP D n b (jv S R a)).1=0 then fA S R a (Qk D n) S.mem else S
def mK(gx:Nat)(w w':World):Prop:=w'.cell? ⟨gx,8,none⟩=w.cell? ⟨gx,8,none⟩
theorem Jm: (164:TypeId)≠89:=by decide
section
variable {At:jL}(api:jM At)(nap:jm)(iap:yn At){w0 w w':World}{gd gx r:Nat}{S:IxS}{D:jK}{E:List Nat}
include api nap iap
theorem qKz(h:jz At w0 gd gx r S D E w)(wf:WfP D)(hc:D.count<=1000000)(n:Nat)(hn:S.m.next=(n:Nat))(b_:n<=999999)(a8:S.m.seed<18446744073709551616)(g:Int)(f:FuncId)(cap:Array Value)(hE:Enters prog f)(R:LvL)(K:Nat)
  (aQ:Calls prog f (#[.int .i64 (n:Nat)]++cap) w (cw w R (K:Nat))) (hR:R.flatten.length<=100000) (hL:R.length<=100000) (a7:(tgL (rdW D (ptT n)).1).length<=10000) (hT:S.T.length<=1000):
  Calls prog 95 #[ptr gx,.int .i64 (n:Nat),.int .i64 g,.func (.func f) #[] cap] w fun e w'=>nV At w0 gd gx r (err (vP D n K (jv S R g)).1) (bQ S D n K R g) (vP D n K (jv S R g)).2 E w e w'/\mK gx w w':=by
 obtain⟨F,y,Gk,d1,hM,d3,M,O,d6⟩:=h;obtain⟨gm,A,cp,B,c2,ps,hC⟩:=hM.cells;obtain⟨c0,c1,-,-,c4,-,c6,-,-⟩:=hC.cs;have j:=qQ hC;have X:=qQ (qU d1 (qU d3 (qU M (qU O d6))))
 have aA:Hid (∀(D':jK) (W:World) (N:List Nat),DS At w0 gd D' (N++(F++(y++(Gk++E)))) W->jV (F++(y++(Gk++E))) w W->(∀b∈N,w.heap.size<=b)->jz At w0 gd gx r S D' E W/\jV E w W/\mK gx w W):=qQ fun D' W N hd hk hN =>
  ⟨(jz.back hM d1 d3 M O d6 hd hk hN).less (fun b a=>qJ _ a),hk.less (fun b a=>qJ _ (qJ _ (qJ _ a))),((hk.qa hC.qa (qJ _ (qG _ hC.own))).cell 8).trans (hC.qa.cell 8).symm⟩
 unfold cw at aQ;have a0:=qQ aQ;have HR:=qQ hR;have HL:=qQ hL;have aZ:=qQ a7;have aE:=qQ wf;have aW:=qQ hc;have HN:=qQ hn;have b2:=qQ a8;have a1:=qQ hT;unfold Enters at hE;have wn:(Lit.int .i64 (n:Nat)).wf=true:=WalkArith.wf_i64 (by omega);have WN:=qQ wn;have cx:(n:Int)<=999999:=by omega
 obtain⟨k,hk⟩:∃k,k=R.length:=⟨_,rfl⟩
 rw[<-hk]at a0;have HK:=qQ hk;obtain⟨tp,aS⟩:∃tp,vP D n K (jv S R g)=tp:=⟨_,rfl⟩
 obtain⟨tx,aT⟩:∃tx,bQ S D n K R g=tx:=⟨_,rfl⟩
 rw[aS,aT];have ah:=qQ aS;have ai:=qQ aT;clear aS aT;clear aQ hC hM d1 d3 M O d6 hR hL a7 wf hc hn a8 hT wn b_ hk;go_enter func95,ntmps95;go_wp2_with fail;refine a0.out.mono ?_;rintro e w1⟨l,o,rfl,r1,b1⟩;obtain⟨G2,al,aO⟩:=r1.keep;have D1:=X.out.1.more api b1 al;have K1:=jV.qn b1 X.out.1.lt;by_cases ax:K=0
 case neg =>
  have t1:((K:Int) != 0)=true:=by simp;omega
  have Z:vP D n K (jv S R g)=(K,D):=by unfold vP;rw[qV ax]
  have e2:bQ S D n K R g=S:=by unfold bQ;rw[Z];exact qZ ax
  have P:=qQ (ah.out.symm.trans Z);have Q:=qQ (ai.out.symm.trans e2);have J:=qQ (aA.out D w1 G2 D1 K1 (fun b a=>(al b a).1));clear r1 b1 al aO D1 K1 Z e2 ax c0 c1 c4 c6;go_wp2;go_ret;rw[P.out,Q.out];exact⟨⟨rfl,J.out.1,J.out.2.1⟩,J.out.2.2⟩
 case pos =>
  subst ax;have cn:=(K1.qa j.out.qa (qJ _ (qG _ j.out.own))).cell 1;have HO:=Cr api nap D1 aE.out (by have:=aW.out;omega) (n:Nat) WN.out (fun _=>aZ.out);unfold re at HO;have ab:=qQ (qU al (qU aO (qU K1 b1)));have aq:=qQ HO;clear r1 b1 al aO D1 K1 HO c0 c1;by_cases ho:jo D n=0
  case neg =>
   have t1:((jo D n:Int) != 0)=true:=(by simp;omega);have Z:vP D n 0 (jv S R g)=(jo D n,ye D n):=(by unfold vP;rw[qZ (by decide),qV ho]);have e2:bQ S D n 0 R g=S:=(by unfold bQ;rw[Z];exact qZ ho);have P:=qQ (ah.out.symm.trans Z);have Q:=qQ (ai.out.symm.trans e2);have ag:=qQ (aq.out.mono (fun e w' h=>(h.resolve_left (fun q=>ho q.1)).2));clear Z e2 ho aq ah ai;generalize jo D n=oe at*;go_wp2_with fail;refine ag.out.mono ?_;rintro e L⟨rfl,d2,k2⟩;have J:=qQ (aA.out _ L G2 d2 (ab.out.2.2.1.trans (k2.less (fun b a=>qJ _ a))) (fun b a=>(ab.out.1 b a).1));clear d2 k2;go_wp2;go_ret;rw[P.out,Q.out];exact⟨⟨rfl,J.out.1,J.out.2.1⟩,J.out.2.2⟩
  case pos =>
   have ag:=aq.out.mono (fun e w' h=>(h.resolve_right (fun q=>q.1 ho)).2);unfold rp at ag;have bp:=qQ ag;have e0:vP D n 0 (jv S R g)=yc (ye D n) (jv S R g):=(by unfold vP;rw[qZ (by decide),qZ (fun q=>q ho)]);have aJ:bQ S D n 0 R g=if (yc (ye D n) (jv S R g)).1=0 then fA S R g (Qk D n) S.mem else S:=by unfold bQ;rw[e0]
   have a_:Qk D n=⟨n,tgL (rdW D (ptT n)).1,ldF (rdW D (ptT n)).2.2 n (tgL (rdW D (ptT n)).1)⟩:=rfl;rw[a_]at aJ;have P:=qQ (ah.out.symm.trans e0);have Q:=qQ (ai.out.symm.trans aJ);have wo:=Jf aE.out (n:Nat);have b3:=qQ wo;clear ho aq ag e0 aJ a_ wo aZ aE aW ah ai;generalize ldF (rdW D (ptT n)).2.2 n (tgL (rdW D (ptT n)).1)=ft at*;generalize tgL (rdW D (ptT n)).1=fl at*;generalize ye D n=D2 at*;go_wp2_with fail;refine bp.out.mono ?_;rintro e L⟨gt,H,rfl,hp,d2,k2,n2⟩;have K2:jV (F++(y++(Gk++E))) w L:=ab.out.2.2.1.trans (k2.less (fun b a=>qJ _ a));have c4:=(K2.qa j.out.qa (qJ _ (qG _ j.out.own))).cell 4;have hA:=(Below.refl L.heap.size L).alloc (qK _) (.cells #[.int .i64 ((n:Int)+1),.int .i64 g,.int .u64 (S.m.seed:Nat),.slice l k o] 40);have BM:=jY.new L 40 #[.int .i64 ((n:Int)+1),.int .i64 g,.int .u64 (S.m.seed:Nat),.slice l k o];have D3:=d2.more api hA (B:=[L.heap.size]) (fun b a=>by rw[qH.1 a];exact⟨qK _,BM.lt⟩);have K3:jV (H++(G2++(F++(y++(Gk++E))))) L (L.alloc (.cells #[.int .i64 ((n:Int)+1),.int .i64 g,.int .u64 (S.m.seed:Nat),.slice l k o] 40)):=jV.qn hA d2.lt;obtain⟨gb,b8⟩:∃gb,L.heap.size=gb:=⟨_,rfl⟩
   rw[b8]at BM D3;obtain⟨I,cc⟩:∃I,L.alloc (.cells #[.int .i64 ((n:Int)+1),.int .i64 g,.int .u64 (S.m.seed:Nat),.slice l k o] 40)=I:=⟨_,rfl⟩
   rw[cc]at BM D3 K3 hA;have aB:=qQ (show w.heap.size<=gb from by have:=K2.size;omega);have P3:=qQ (hp.below hA);have D4:=D3.drew api;have aG:uB I.drew (.slice l k o) R G2:=(ab.out.2.1.step (k2.less (fun b a=>qG _ a))).step ((K3.less (fun b a=>qJ _ (qG _ a))).drew);have a4:∀b∈G2,b∈[gb]++(H++(G2++(F++(y++(Gk++E))))):=fun b a=>qJ _ (qJ _ (qG _ a))
   have HO:dP w0 ([gb]++(H++(G2++(F++(y++(Gk++E)))))) I.drew (.slice l k o) R:=fun W _ ar=>aG W (ar.less a4)
   have aD:=qQ (iap.swap ((n:Int)+1) g S.m.seed l k o R D4 b3.out HO HK.out HR.out HL.out b2.out);have K4:jV (F++(y++(Gk++E))) w I.drew:=(K2.trans (K3.less (fun b a=>qJ _ (qJ _ a)))).drew;have aX:=qQ K4;have bm:=qQ aG;have aV:=qQ BM
   have a3:∀b∈[gb]++(H++G2),w.heap.size<=b:=fun b a=>by
    have:=ab.out.2.2.2.size;rcases qB.1 a with q|q
    ·rw[qH.1 q];exact aB.out
    ·rcases qB.1 q with q|q
     ·have:=n2 b q;omega
     ·exact(ab.out.1 b q).1
   have aY:=qQ a3;have c1:I.drew.cell? ⟨gx,1,none⟩=some (ptr gd):=(K4.qa j.out.qa (qJ _ (qG _ j.out.own))).cell 1;obtain⟨m0,m1,m2,m3⟩:=mJ BM;have cu:I.drew.cell? ⟨gx,1,none⟩=some (ptr gd)/\I.drew.cell? ⟨gb,0,none⟩=some (.int .i64 ((n:Int)+1))/\I.drew.cell? ⟨gb,1,none⟩=some (.int .i64 g)/\I.drew.cell? ⟨gb,2,none⟩=some (.int .u64 (S.m.seed:Nat))/\I.drew.cell? ⟨gb,3,none⟩=some (.slice l k o):=⟨c1,m0,m1,m2,m3⟩
   have a2:jv S R g=⟨(n:Int)+1,g,S.m.seed,R⟩:=(by unfold jv;rw[HN.out]);rw[a2]at P Q;unfold yX at aD;unfold jr at aD;clear hA D3 K3 K2 D4 aG HO K4 BM a3 c1 m0 m1 m2 m3 hp d2 k2 n2 a4 a2;generalize ca:yc D2 ⟨(n:Int)+1,g,S.m.seed,R⟩=sp at*
   have bb:Hid (∀W,jV ([gb]++(H++(G2++(F++(y++(Gk++E)))))) I.drew W->W.cell? ⟨gx,1,none⟩=some (ptr gd)/\W.cell? ⟨gb,0,none⟩=some (.int .i64 ((n:Int)+1))/\W.cell? ⟨gb,1,none⟩=some (.int .i64 g)/\W.cell? ⟨gb,2,none⟩=some (.int .u64 (S.m.seed:Nat))/\W.cell? ⟨gb,3,none⟩=some (.slice l k o)):=qQ fun W ar=>by
    have B1:=(aX.out.trans (ar.less (fun b a=>qJ _ (qJ _ (qJ _ a))))).qa j.out.qa (qJ _ (qG _ j.out.own));have B2:=ar.qa aV.out.drew (qG _ qD);exact⟨B1.cell 1,mJ B2⟩
   clear ca;go_wp2_with fail
   go_region_held3 (fun W=>W.cell? ⟨gx,1,none⟩=some (ptr gd)/\W.cell? ⟨gb,0,none⟩=some (.int .i64 ((n:Int)+1))/\W.cell? ⟨gb,1,none⟩=some (.int .i64 g)/\W.cell? ⟨gb,2,none⟩=some (.int .u64 (S.m.seed:Nat))/\W.cell? ⟨gb,3,none⟩=some (.slice l k o))
    (first | (with_reducible assumption) | fail)
    (first
    | (go_at_call 164;((with_reducible refine aD.out.mono ?_);rintro e s⟨rfl,M,k4⟩;have aK:=bb.out s k4))
    | fail)
   obtain⟨ba,D5⟩:=sp;simp only at M aK P Q
   have O:DS At w0 gd D5 (([gb]++(H++G2))++(F++(y++(Gk++E)))) s:=by
    rw[qb,qb];exact M
   have K5:jV (F++(y++(Gk++E))) w s:=aX.out.trans (k4.less (fun b a=>qJ _ (qJ _ (qJ _ a))));have ac:uB s (.slice l k o) R G2:=bm.out.step (k4.less (fun b a=>qJ _ (qJ _ (qG _ a))));have P5:=P3.out.drew.keep k4 (fun b a=>qJ _ (qG _ a));have ao:=k4.qa aV.out.drew (qG _ qD);by_cases aR:ba=0
   case neg =>
    have t1:((ba:Int) != 0)=true:=(by simp;omega);have J:=qQ (aA.out D5 s _ O K5 aY.out);have ap:=qQ (show tx=S from by rw[Q.out];exact qZ aR);clear M O k4 K5 ac P5 ao aR aK;go_wp2;go_ret;rw[P.out,ap.out];exact⟨⟨rfl,J.out.1,J.out.2.1⟩,J.out.2.2⟩
   case pos =>
    subst aR;have ay:=me (.slice l k o) R s ac.now HR.out HL.out;unfold bI at ay;have aU:=qQ ay;have H5:=qQ (qU O (qU K5 (qU ac (qU P5 ao))));obtain⟨U,aN⟩:∃U,U=R.flatten.length:=⟨_,rfl⟩
    rw[<-aN]at aU;have ck:=qQ aN;clear M O k4 K5 ac P5 ao aK ay aN;go_wp2_with fail;refine aU.out.mono ?_;rintro e w5⟨A6,ad,rfl,r6,b6⟩;have ak:=(Below.refl w5.heap.size w5).alloc (qK _) (.cells #[.slice A6 U ad] 96);have B6:=jY.new w5 96 #[.slice A6 U ad];obtain⟨g6,b7⟩:∃g6,w5.heap.size=g6:=⟨_,rfl⟩
    rw[b7]at B6;obtain⟨w6,ce⟩:∃w6,w5.alloc (.cells #[.slice A6 U ad] 96)=w6:=⟨_,rfl⟩
    rw[ce]at ak B6;have aI:Below s.heap.size s w6:=b6.trans (ak.mono b6.size);have au:=H5.out.1.lt;have aF:jV (([gb]++(H++G2))++(F++(y++(Gk++E)))) s w6:=jV.qn aI au;have K6:jV (F++(y++(Gk++E))) w w6:=H5.out.2.1.trans (aF.less (fun b a=>qJ _ a));have aj:=K6.qa j.out.qa (qJ _ (qG _ j.out.own));have c6:=aj.cell 6;have co:=aj.frozen 6;have R6:=K6.xM j.out.row (fun b a=>qJ _ (qG _ (j.out.xI b a)));have T6:=j.out.xK.keep K6 (fun b a=>qJ _ (qJ _ (qG _ a)));have I6:kX w6 (.slice A6 U ad) R.flatten:=(j4.xQ r6).below ak (qK _);have aP:∀b∈jF (.slice A6 U ad),s.heap.size<=b/\b<w5.heap.size:=fun b a=>r6.lt b (kG.1 a)
    have am:∀b∈jF (.slice B ps.length c2),b∈y/\b<s.heap.size:=fun b a=>⟨j.out.xI b a,au b (qJ _ (qJ _ (qG _ (j.out.xI b a))))⟩
    have bi:=qQ (qK8 (E:=Gk++(g6::jF (.slice A6 U ad))) T6 R6 B6 I6 (by have:=HR.out;omega) (by rw[j.out.xK.1];exact a1.out) (fun b a=>qG _ a) (qJ _ qD) (fun b a=>qJ _ (qE _ a)) (fun b a=>by
     have z5:=b6.size;have z6:=ak.size;rcases qB.1 a with q|q
     ·refine⟨fun z=>(X.out.2.2.1 b (am b z).1).1 q, ?_⟩;have:=au b (qJ _ (qJ _ (qJ _ (qG _ q))));omega
     ·rcases qL.1 q with e|q
      ·refine⟨fun z=>?_,by rw[e];exact B6.lt⟩;have:=(am b z).2;omega
      ·refine⟨fun z=>?_,by have:=(aP b q).2;omega⟩;have:=(am b z).2;have:=(aP b q).1;omega))
    have aC:=qQ (show gx ∉ jF (.slice B ps.length c2) from fun z=>vR R6 aj Jm (kG.1 z));have b0:=qQ (fun(b:Nat) (a:b∈jF (.slice B ps.length c2))=>(show b<w.heap.size from X.out.1.lt b (qJ _ (qG _ (am b a).1))));have az:=qQ (qU aI (qU aF (qU K6 aj)));have cv:∀(fn:Fn) (first cap:Array Value) (w:World),(Instr.makeFunc fn first cap).run prog w = .ok (.func fn first cap) w:=fun _ _ _ _=>rfl
    clear r6 b6 ak B6 aI au aF K6 aj R6 T6 I6 aP am;go_wp2_with fail;refine bi.out.mono ?_;rintro e w7⟨u,rfl,r7,o7,t7⟩;obtain⟨V,Y,rfl,-,-,-⟩:=r7.form
    have b9:(cT ps S.T R.flatten).length<=1000:=by
     unfold cT;rw[qj];refine qO (List.length_filter_le _ _) ?_;rw[List.length_zip];have:=a1.out;omega
    obtain⟨i,av⟩:∃i,i=(cT ps S.T R.flatten).length:=⟨_,rfl⟩
    rw[<-av]at r7 o7;rw[<-av];have X7:=az.out.2.2.2.qe t7 aC.out;have x6:=X7.cell 6;have f6:=X7.frozen 6;have X8:=X7.put 6 (.slice V i Y);have a5:(Value.slice V i Y).ownBlock≠some gx:=fun e=>aC.out (by rw[<-o7];exact kG.2 e)
    have r8:vm (w7.setCell ⟨gx,6,none⟩ (.slice V i Y)) w0.heap.size (.slice V i Y) (cT ps S.T R.flatten):=yH (p:=⟨gx,6,none⟩) r7 a5 _;have t8:jG (gx::jF (.slice B ps.length c2)) s (w7.setCell ⟨gx,6,none⟩ (.slice V i Y)):=(((jG.qn az.out.1).more (fun x hx=>by cases hx)).trans t7 (fun x hx=>qX (qE _ hx))).setCell (p:=⟨gx,6,none⟩) (qX qD) _;have aL:gb ∉ jF (.slice B ps.length c2):=fun z=>by have:=b0.out gb z;have:=aB.out;omega
    have aM:gx≠gb:=fun e=>by
     have h1:=X.out.1.lt gx (qJ _ (qG _ j.out.own));have:=aB.out;omega
    have M8:=((jY.below H5.out.2.2.2.2 az.out.1).qe t7 aL).qo (p:=⟨gx,6,none⟩) (fun e=>aM e.symm) (.slice V i Y);obtain⟨w8,ci⟩:∃w8,w7.setCell ⟨gx,6,none⟩ (.slice V i Y)=w8:=⟨_,rfl⟩
    rw[ci]at r8 t8 X8 M8;have c6:=X8.cell 6;have a9:w0.heap.size<=w8.heap.size:=(by have:=X.out.1.kept.size;have:=H5.out.2.1.size;have:=t8.size;omega);obtain⟨C,G,w9,e9,r9,t9,o9⟩:=DJ gt 86 r8 av (by omega) a9;have X9:=X8.qe t9 (fun z=>aC.out (by rw[<-o7];exact z));have M9:=M8.qe t9 (fun z=>aL (by rw[<-o7];exact z));have y6:=X9.cell 6;have g9:=X9.frozen 6;have v:=X9.put 6 (.slice C (i+1) G);have aH:=M9.qo (p:=⟨gx,6,none⟩) (fun e=>aM e.symm) (.slice C (i+1) G);have a6:(Value.slice C (i+1) G).ownBlock≠some gx:=vR r9 X9 Jm;have aa:vm (w9.setCell ⟨gx,6,none⟩ (.slice C (i+1) G)) w0.heap.size (.slice C (i+1) G) (cT ps S.T R.flatten++[gt]):=yH (p:=⟨gx,6,none⟩) r9 a6 _;have an:jG (gx::jF (.slice B ps.length c2)) s (w9.setCell ⟨gx,6,none⟩ (.slice C (i+1) G)):=(t8.trans t9 (fun x hx=>qX (qE _ (by rw[<-o7];exact hx)))).setCell (p:=⟨gx,6,none⟩) (qX qD) _
    have bv:=qQ (fun(b:Nat) (a:b∈jF (.slice C (i+1) G))=>(show b∈jF (.slice B ps.length c2)∨(s.heap.size<=b/\b<w9.heap.size) from by
     rcases o9 b a with q|q
     ·exact qX (by rw[<-o7];exact q)
     ·exact qY ⟨qO t8.size q.1,q.2⟩))
    have bk:=qQ e9;have ae:(w9.setCell ⟨gx,6,none⟩ (.slice C (i+1) G)).heap.size=w9.heap.size:=(by simp[World.setCell]);obtain⟨af,cb⟩:∃af,w9.setCell ⟨gx,6,none⟩ (.slice C (i+1) G)=af:=⟨_,rfl⟩
    rw[cb]at aa an v aH ae;obtain⟨m0,m1,m2,m3⟩:=mJ aH;have z2:=v.cell 2;have z3:=v.cell 3;have z4:=v.cell 4;have z5:=v.cell 5;have v2:=v.frozen 2;have v3:=v.frozen 3;have v4:=v.frozen 4;have v5:=v.frozen 5;have b4:=qQ (qU v (qU aa (qU an ae)));clear r7 o7 t7 b9 X7 X8 a5 r8 t8 aL aM M8 a9 e9 r9 t9 o9 X9 M9 v aH a6 aa an ae av;go_wp2_with (first | (at_builtin;refine yI rfl _ _ rfl rfl rfl bk.out ?_) | fail);go_ret;have ap:=Q.out;rw[qV (by trivial)]at ap;rw[P.out,ap];obtain⟨v,aa,an,ae⟩:=b4.out;have q1:=aa
    have F1:jY ((((af.setCell ⟨gx,2,none⟩ (.int .i64 ((n:Int)+1))).setCell ⟨gx,3,none⟩ (.int .i64 g)).setCell ⟨gx,4,none⟩ (.int .u64 (S.m.seed:Nat))).setCell ⟨gx,5,none⟩ (.slice l k o)) gx 89 #[ptr gx,ptr gd,.int .i64 (S.m.next+1),.int .i64 g,.int .u64 (S.m.seed:Nat),.slice l k o,.slice C (i+1) G,.float .f64 r,mtp gm]:=by
     rw[HN.out];exact(((v.put 2 _).put 3 _).put 4 _).put 5 _
    have aw:(Value.slice C (i+1) G).ownBlock≠some gx:=vR aa v Jm;have F2:vm ((((af.setCell ⟨gx,2,none⟩ (.int .i64 ((n:Int)+1))).setCell ⟨gx,3,none⟩ (.int .i64 g)).setCell ⟨gx,4,none⟩ (.int .u64 (S.m.seed:Nat))).setCell ⟨gx,5,none⟩ (.slice l k o)) w0.heap.size (.slice C (i+1) G) (cT ps S.T R.flatten++[gt]):=yH (yH (yH (yH aa aw _) aw _) aw _) aw _;have F3:jG (gx::jF (.slice B ps.length c2)) s ((((af.setCell ⟨gx,2,none⟩ (.int .i64 ((n:Int)+1))).setCell ⟨gx,3,none⟩ (.int .i64 g)).setCell ⟨gx,4,none⟩ (.int .u64 (S.m.seed:Nat))).setCell ⟨gx,5,none⟩ (.slice l k o)):=(((an.setCell (p:=⟨gx,2,none⟩) (qX qD) _).setCell (p:=⟨gx,3,none⟩) (qX qD) _).setCell (p:=⟨gx,4,none⟩) (qX qD) _).setCell (p:=⟨gx,5,none⟩) (qX qD) _;have F4:((((af.setCell ⟨gx,2,none⟩ (.int .i64 ((n:Int)+1))).setCell ⟨gx,3,none⟩ (.int .i64 g)).setCell ⟨gx,4,none⟩ (.int .u64 (S.m.seed:Nat))).setCell ⟨gx,5,none⟩ (.slice l k o)).heap.size=w9.heap.size:=(by simp only[World.setCell,Array.size_modify]at ae ⊢;exact ae);obtain⟨O,K5,ac,P5,ao⟩:=H5.out;obtain⟨d1,d3,M,b5,d6⟩:=X.out
    have HT:=qKx (N:=[gb]++(H++G2)) (G2:=G2) (H:=H) api j.out d1 d3 M b5 d6 O K5 aY.out ac (fun b a=>qJ _ (qJ _ a)) P5 (fun b a=>qJ _ (qG _ a)) HN.out F3 F1 F2 (fun b a=>by
     rcases bv.out b a with q|q
     ·exact qX q
     ·exact qY ⟨q.1,by rw[F4];exact q.2⟩)
    exact⟨⟨rfl,HT⟩,(F1.cell 8).trans (j.out.qa.cell 8).symm⟩
end
def v7(D:jK)(n:Nat)(l:List jJ)(t:Tw)(a:Nat)(m:j5):Nat × jK :=
 if (je D n l t).1≠0 then je D n l t
 else if (vP (je D n l t).2 n a m).1≠0 then((vP (je D n l t).2 n a m).1,(yf (vP (je D n l t).2 n a m).2 n).2)
 else vP (je D n l t).2 n a m
noncomputable def yb (S:IxS)(D:jK)(n:Nat)(l:List jJ)(t:Tw)(b:Nat)(R:LvL)(a:Int):IxS:=if (je D n l t).1≠0 then S else bQ S (je D n l t).2 n b R a
theorem Jn{D:jK}(h:WfP D)(n a:Nat)(m:j5):WfP (vP D n a m).2:=by
 unfold vP;split
 ·exact h
 ·split
  ·exact Jf h _
  ·exact Nv (Jf h _) m
section
variable {At:jL}(api:jM At)(nap:jm)(iap:yn At){w0 w w':World}{gd gx r:Nat}{S:IxS}{D:jK}{E:List Nat}
theorem jz.zE{D':jK}(h:jz At w0 gd gx r S D E w){P:Program}{f:FuncId}{args:Array Value}{Q:Ending->World->Prop}
  (u:∀E',(∀b∈E,b∈E')->DS At w0 gd D E' w->Calls P f args w fun e w'=>DS At w0 gd D' E' w'/\jV E' w w'/\Q e w'):Calls P f args w fun e w'=>jz At w0 gd gx r S D' E w'/\jV E w w'/\mK gx w w'/\Q e w':=by
 obtain⟨v,y,Gk,i,j,l,o,p,s⟩:=h;obtain⟨gm,A,cp,B,c2,ps,g⟩:=j.cells;refine(u _ (fun b a=>qJ _ (qJ _ (qJ _ a))) i).mono ?_;rintro e w'⟨d,k,q⟩;refine⟨jz.back (N:=[]) j i l o p s d k (fun b a=>by cases a),k.less (fun b a=>qJ _ (qJ _ (qJ _ a))), ?_,q⟩;exact((k.qa g.qa (qJ _ (qG _ g.own))).cell 8).trans (g.qa.cell 8).symm
include api nap iap
theorem DK(h:jz At w0 gd gx r S D E w)(J:WfP D)(u:D.down=false)(hc:D.count<=1000000)(n:Nat)(hn:S.m.next=(n:Nat))(ab:n<=999999)(am:S.m.seed<18446744073709551616)(hr:r<18446744073709551616)
  (v:Value) (l:List jJ) (hv:ju w v l) (ay:∀b∈jF v,b∈E) (hl:l.length<=1000) (aj:∀x∈l,kI x) (G:uY l=true)
  (a:Int) (f:FuncId) (cap:Array Value) (hE:Enters prog f) (R:LvL) (g:Nat)
  (al:∀W D',jz At w0 gd gx r S D' E W->jV E w W->Calls prog f (#[.int .i64 (n:Nat)]++cap) W (cw W R (g:Nat))) (hR:R.flatten.length<=100000) (hL:R.length<=100000)
  (ak:∀t,gP l r t->(je D n l t).1=0->(tgL (rdW (je D n l t).2 (ptT n)).1).length<=10000) (hT:S.T.length<=1000):
  Calls prog 36 #[ptr gx,v,.int .i64 a,.func (.func f) #[] cap] w fun e w'=>∃t,gP l r t/\nV At w0 gd gx r (err (v7 D n l t g (jv S R a)).1) (yb S D n l t g R a) (v7 D n l t g (jv S R a)).2 E w e w'/\mK gx w w':=by
 have hI:=h;obtain⟨L,M,Gk,X,Z,d3,y,d5,d6⟩:=h;obtain⟨gm,A,cp,B,c2,ps,C⟩:=Z.cells;obtain⟨c0,c1,au,-,-,-,-,c7,-⟩:=C.cs;rw[hn]at au;have wn:(Lit.int .i64 (n:Nat)).wf=true:=WalkArith.wf_i64 (by omega);have an:ju w.drew v l:=hv.below (Below.refl _ _).drew (qK _);have j:=qK1 api nap (X.drew api) J (n:Nat) wn v l an hl aj r hr (Z2 ab) G u;have V:=qQ j;have ax:w.drew.cell? ⟨gx,1,none⟩=some (ptr gd)/\w.drew.cell? ⟨gx,7,none⟩=some (.float .f64 r):=⟨c1,c7⟩
 have HI:=qQ hI
 have ad:Hid (∀(D':jK) (W:World),DS At w0 gd D' (L++(M++(Gk++E))) W->jV (L++(M++(Gk++E))) w.drew W->jz At w0 gd gx r S D' E W/\jV E w W/\(W.cell? ⟨gx,1,none⟩=some (ptr gd)/\W.cell? ⟨gx,7,none⟩=some (.float .f64 r))/\mK gx w W):=qQ fun D' W u hk=>by
  have aa:jV (L++(M++(Gk++E))) w W:=(jV.refl _ w).drew.trans hk;have K:=aa.qa C.qa (qJ _ (qG _ C.own));exact⟨jz.back (N:=[]) Z X d3 y d5 d6 u aa (fun b hb=>by cases hb),aa.less (fun b hb=>qJ _ (qJ _ (qJ _ hb))),⟨K.cell 1,K.cell 7⟩,(K.cell 8).trans (C.qa.cell 8).symm⟩
 have af:Hid (∀t,gP l r t->(je D n l t).1=0->∀W,jz At w0 gd gx r S (je D n l t).2 E W->jV E w W->Calls prog 95 #[ptr gx,.int .i64 (n:Nat),.int .i64 a,.func (.func f) #[] cap] W fun e w'=>(nV At w0 gd gx r (err (vP (je D n l t).2 n g (jv S R a)).1) (bQ S (je D n l t).2 n g R a) (vP (je D n l t).2 n g (jv S R a)).2 E W e w'/\mK gx W w')):=qQ fun t G h0 W j hk =>
  qKz api nap iap j (ri J _ _ _) (by rw[(qKV D n l t).count];exact hc) n hn ab am a f cap hE R g (al W _ j hk) hR hL (ak t G h0) hT
 have ae:Hid (∀t (s:IxS) W,jz At w0 gd gx r s (vP (je D n l t).2 n g (jv S R a)).2 E W->Calls prog 47 #[ptr gd,.int .i64 (n:Nat)] W fun e w'=>jz At w0 gd gx r s (yf (vP (je D n l t).2 n g (jv S R a)).2 n).2 E w'/\jV E W w'/\mK gx W w'/\e = .returned (err (yf (vP (je D n l t).2 n g (jv S R a)).2 n).1)):=qQ fun t s W j =>
  j.zE (fun E' _ u=>(Ci api nap u (Jn (ri J _ _ _) _ _ _) (n:Nat) wn).mono fun e w' h=>⟨h.2.1,h.2.2,h.1⟩)
 have aq:Hid (∀(s:IxS) (D':jK) W,jz At w0 gd gx r s D' E W->W.cell? ⟨gx,1,none⟩=some (ptr gd)):=qQ fun s D' W j=>by
  obtain⟨_,_,_,_,aw,_⟩:=j;obtain⟨_,_,_,_,_,_,av⟩:=aw.cells;exact av.cs.2.1
 obtain⟨Av,ov,cv,rfl,-,-⟩:=hv.form;obtain⟨nv,ai⟩:∃nv,nv=l.length:=⟨_,rfl⟩
 rw[<-ai]at V ⊢;clear hI X Z C d3 y d5 d6 J u hc hn ab am hr hv ay hl aj G hE al hR hL ak hT wn an j ai c0;go_enter func36,ntmps36;go_wp2_with fail
 go_region_held3 (fun W=>W.cell? ⟨gx,1,none⟩=some (ptr gd)/\W.cell? ⟨gx,7,none⟩=some (.float .f64 r))
  (first | (with_reducible assumption) | fail)
  (first
  | (go_at_call 94;((with_reducible refine V.out.mono ?_);rintro e w4⟨t,ah,rfl,y,k4⟩;have Y:=ad.out _ w4 y k4;have ag:=Y.2.2.1))
  | fail)
 have o:=qQ Y;have F:=qQ ah;clear Y y k4 ah V ad ax;by_cases i:(je D n l t).1=0
 case neg =>
  have I:(((je D n l t).1:Int) != 0)=true:=by simp;omega
  have k:Hid (v7 D n l t g (jv S R a)=je D n l t/\yb S D n l t g R a=S):=qQ ⟨by unfold v7;rw[qV i],by unfold yb;rw[qV i]⟩;clear i ag;have HQ:=qQ (show ∀z,(je D n l t).1=z->(je D n l t).1=z from fun z h=>h);obtain⟨z,hz⟩:∃z,(je D n l t).1=z:=⟨_,rfl⟩
  have HZ:=qQ hz;rw[hz]at I ⊢;clear hz;go_wp2;go_ret;refine⟨t,F.out, ?_⟩;rw[k.out.1,k.out.2,HZ.out];exact⟨⟨rfl,o.out.1,o.out.2.1⟩,o.out.2.2.2⟩
 case pos =>
  have I:(((je D n l t).1:Int) != 0)=false:=by rw[i];rfl
  have Q:=af.out t F.out i w4 o.out.1 o.out.2.1;have P:=qQ (ae.out t);unfold nV at Q;have U:=qQ Q;have k:Hid (((vP (je D n l t).2 n g (jv S R a)).1=0->v7 D n l t g (jv S R a)=vP (je D n l t).2 n g (jv S R a))/\((vP (je D n l t).2 n g (jv S R a)).1≠0->v7 D n l t g (jv S R a)=((vP (je D n l t).2 n g (jv S R a)).1,(yf (vP (je D n l t).2 n g (jv S R a)).2 n).2))/\yb S D n l t g R a=bQ S (je D n l t).2 n g R a):=qQ ⟨fun q=>by unfold v7;rw[qZ (fun h=>h i),qZ (fun h=>h q)],fun q=>by unfold v7;rw[qZ (fun h=>h i),qV q],by unfold yb;rw[qZ (fun h=>h i)]⟩;rw[i];clear af ae Q i I ag;generalize bQ S (je D n l t).2 n g R a=tx at*;generalize vP (je D n l t).2 n g (jv S R a)=tp at*;obtain⟨ao,D5⟩:=tp;simp only at U P k;go_wp2_with fail;refine U.out.mono ?_;rintro e w5⟨⟨rfl,i5,k5⟩,s5⟩;have p:=qQ (qU i5 (qU (o.out.2.1.trans k5) (s5.trans o.out.2.2.2)));have c1:=aq.out _ _ _ i5;clear i5 k5 s5 U;by_cases ac:ao=0
  case pos =>
   subst ac;go_wp2;go_ret;refine⟨t,F.out, ?_⟩;rw[k.out.1 (by trivial),k.out.2.2];exact⟨⟨rfl,p.out.1,p.out.2.1⟩,p.out.2.2⟩
  case neg =>
   have I:((ao:Int) != 0)=true:=(by simp;omega);have ar:=qQ ac;have ap:=qQ (P.out tx w5 p.out.1);clear ac P;go_wp2_with fail;refine ap.out.mono ?_;rintro e w6⟨i6,k6,s6,rfl⟩;have O:=qQ (qU i6 (qU (p.out.2.1.trans k6) (s6.trans p.out.2.2)));clear i6 k6 s6;go_wp2;go_ret;refine⟨t,F.out, ?_⟩;rw[k.out.2.1 ar.out,k.out.2.2];exact⟨⟨rfl,O.out.1,O.out.2.1⟩,O.out.2.2⟩
end
theorem qKj(L:LvL)(n:Int):(kJ L n).length<=5/\(kJ L n).flatten.length<=41:=by
 by_cases h:vd L n=0
 ·have:=KC h;exact⟨this.1.1,by have:=this.1.2.1;omega⟩
 ·unfold kJ;rw[qZ h];exact⟨qF _,qF _⟩
theorem qKk(L:LvL)(k n:Int):(kN L k n).length<=5/\(kN L k n).flatten.length<=41:=by
 by_cases h:vw L k n=0
 ·have:=KD h;exact⟨this.1.1,by have:=this.1.2.1;omega⟩
 ·unfold kN;rw[qZ h];exact⟨qF _,qF _⟩
section
variable {At:jL}(api:jM At){w0 w W:World}{gd gx r gb gk:Nat}{S:IxS}{D:jK}{E:List Nat}
theorem jz.x7(h:jz At w0 gd gx r S D E w):∃A cp,w.cell? ⟨gx,5,none⟩=some (.slice A S.m.lv.length cp)/\jn w (.slice A S.m.lv.length cp) S.m.lv:=by
 obtain⟨f,g,Gk,-,b,-⟩:=h;obtain⟨gm,A,cp,B,c2,ps,a⟩:=b.cells;exact⟨A,cp,a.cs.2.2.2.2.2.1,a.lv.now⟩
theorem qKv(h:jz At w0 gd gx r S D E W)(b:jw S.m)(l:jY W gb 33 #[ptr gx])(n:Int)(k:Nat)(o:vd S.m.lv n=(k:Nat)):
  Calls prog 39 (#[.int .i64 n]++#[ptr gb]) W (cw W (kJ S.m.lv n) (k:Nat)):=by
 obtain⟨A,cp,y,p⟩:=h.x7;have v:=l.cell 0;have a:=qQs _ S.m.lv n W p (by have:=b.2.2.2.2.1.2.1;omega) (by have:=b.2.2.2.2.1.1;omega);rw[o]at a;unfold cw at a ⊢;have i:=qQ a;show Calls prog 39 #[.int .i64 n,ptr gb] W _;obtain⟨m,f⟩:∃m,m=(kJ S.m.lv n).length:=⟨_,rfl⟩
 have u:=qQ f;rw[<-f]at i ⊢;clear h b l o p a f;generalize kJ S.m.lv n=R at*;go_enter func39,ntmps39;go_wp2_with fail;refine i.out.mono ?_;rintro e z⟨s,c1,rfl,q,j⟩;have g:=qQ (qU q j);clear q j;go_wp2;go_ret2;exact⟨s,c1,rfl,g.out.1,g.out.2⟩
theorem qKy(h:jz At w0 gd gx r S D E W)(l:jw S.m)(u:jY W gb 33 #[ptr gx])(a:Int)(v:jY W gk 3 #[.int .i64 a])(n:Int)(k:Nat)(y:vw S.m.lv a n=(k:Nat)):
  Calls prog 45 (#[.int .i64 n]++#[ptr gb,ptr gk]) W (cw W (kN S.m.lv a n) (k:Nat)):=by
 obtain⟨A,cp,j,z⟩:=h.x7;have f:=u.cell 0;have i:=v.cell 0;have b:=qQe _ S.m.lv a n W.drew (z.below (Below.refl _ _).drew (qK _)) (by have:=l.2.2.2.2.1.2.1;omega) (by have:=l.2.2.2.2.1.1;omega);rw[y]at b;unfold cw at b ⊢;have s:=qQ b;show Calls prog 45 #[.int .i64 n,ptr gb,ptr gk] W _;obtain⟨m,o⟩:∃m,m=(kN S.m.lv a n).length:=⟨_,rfl⟩
 have K:=qQ o;rw[<-o]at s ⊢;have L:W.drew.cell? ⟨gb,0,none⟩=some (ptr gx)/\W.drew.cell? ⟨gk,0,none⟩=some (.int .i64 a)/\W.drew.cell? ⟨gx,5,none⟩=some (.slice A S.m.lv.length cp):=⟨f,i,j⟩
 have F:Hid (∀w',Below W.drew.heap.size W.drew w'->w'.cell? ⟨gb,0,none⟩=some (ptr gx)/\w'.cell? ⟨gk,0,none⟩=some (.int .i64 a)/\w'.cell? ⟨gx,5,none⟩=some (.slice A S.m.lv.length cp)):=qQ fun w' hw =>
  ⟨(hw.cell (p:=⟨gb,0,none⟩) (World.block_lt_of_cell? W _ f)).trans f,(hw.cell (p:=⟨gk,0,none⟩) (World.block_lt_of_cell? W _ i)).trans i,(hw.cell (p:=⟨gx,5,none⟩) (World.block_lt_of_cell? W _ j)).trans j⟩
 clear h l u v y z b o;generalize kN S.m.lv a n=R at*;generalize S.m.lv.length=I at*;go_enter func45,ntmps45;go_wp2_with fail
 go_region_held3 (fun w'=>w'.cell? ⟨gb,0,none⟩=some (ptr gx)/\w'.cell? ⟨gk,0,none⟩=some (.int .i64 a)/\w'.cell? ⟨gx,5,none⟩=some (.slice A I cp))
  (first | (with_reducible assumption) | fail)
  (first
  | (go_at_call 46;((with_reducible refine s.out.mono ?_);rintro e J⟨C,c1,rfl,B,g⟩;have G:=F.out J g))
  | fail)
 have q:=qQ (qU B g);clear B g G;go_wp2;go_ret2;exact⟨C,c1,rfl,q.out.1,(Below.refl _ W).drew.trans q.out.2⟩
end
def fC: jK->List Int->Nat × jK
 | D,[]=>(0,D)
 | D,n::ns=>if (yf D n).1≠0 then yf D n else fC (yf D n).2 ns
theorem DV(D:jK)(n:Int)(ns:List Int):fC D (n::ns)=if (yf D n).1≠0 then yf D n else fC (yf D n).2 ns:=rfl
def dZ(D:jK)(S:IxS)(t:Tw)(n:Nat)(a:Int)(f b k:Nat):Nat × jK :=
 if f≠0 then(f,D)
 else if (v7 { D with count:=D.count+k } n (ka S (js S.m.lv a)) t b (jv S (kN S.m.lv a n) S.m.check)).1≠0 then v7 { D with count:=D.count+k } n (ka S (js S.m.lv a)) t b (jv S (kN S.m.lv a n) S.m.check)
 else fC (v7 { D with count:=D.count+k } n (ka S (js S.m.lv a)) t b (jv S (kN S.m.lv a n) S.m.check)).2 (js S.m.lv a)
noncomputable def dq (D:jK)(S:IxS)(t:Tw)(n:Nat)(a:Int)(f b k:Nat):IxS :=
 if f≠0 then S else yb S { D with count:=D.count+k } n (ka S (js S.m.lv a)) t b (kN S.m.lv a n) S.m.check
theorem qKu(S:IxS)(D:jK)(n a:Nat)(R:LvL):(bQ S D n a R S.m.check).m.check=S.m.check:=by
 unfold bQ;split
 ·rfl
 ·rfl
theorem qKg(S:IxS)(D:jK)(n:Nat)(l:List jJ)(t:Tw)(a:Nat)(R:LvL):(yb S D n l t a R S.m.check).m.check=S.m.check:=by
 unfold yb;split
 ·rfl
 ·exact qKu _ _ _ _ _
theorem qKb{D:jK}(h:WfP D)(n:Nat)(l:List jJ)(t:Tw)(a:Nat)(m:j5):WfP (v7 D n l t a m).2:=by
 unfold v7;split
 ·exact ri h _ _ _
 ·split
  ·exact Ct (Jn (ri h _ _ _) _ _ _) _
  ·exact Jn (ri h _ _ _) _ _ _
theorem qKc{D:jK}{S:IxS}(ok:jl D S)(ns:List Int):(ka S ns).length<=cQ S:=by
 unfold ka cP cQ;have a:=U8 ((S.T.filter fun t=>decide ((t.n:Int)∈ns)).map TbS.l);have b:=Jl (fun t=>decide ((t.n:Int)∈ns)) S.T;omega
section
variable {At:jL}(api:jM At)(nap:jm)(iap:yn At){w0 w w':World}{gd gx r:Nat}{S:IxS}{D:jK}{E:List Nat}
theorem jz.xg(h:jz At w0 gd gx r S D E w):w.cell? ⟨gx,0,none⟩=some (ptr gx)/\w.cell? ⟨gx,1,none⟩=some (ptr gd)/\w.cell? ⟨gx,3,none⟩=some (.int .i64 S.m.check):=by
 obtain⟨_,_,_,_,b,_⟩:=h;obtain⟨_,_,_,_,_,_,a⟩:=b.cells;exact⟨a.cs.1,a.cs.2.1,a.cs.2.2.2.1⟩
include api nap iap
theorem qKd(h:jz At w0 gd gx r S D E w)(I:WfP D)(X:D.down=false)(hc:D.count<=900000)(ok:jl D S)(n:Nat)(hn:S.m.next=(n:Nat))(aq:n<=999999)(hr:r<18446744073709551616)(ht:cQ S<=40000)(a:Int)(a4:(ka S (js S.m.lv a)).length<=1000)
  (F:Nat) (aw:ki S.m.lv a=(F:Nat)) (q:Nat) (av:vw S.m.lv a n=(q:Nat))
  (ai:∀k t,k<=40->gP (ka S (js S.m.lv a)) r t->(je { D with count:=D.count+k } n (ka S (js S.m.lv a)) t).1=0->(tgL (rdW (je { D with count:=D.count+k } n (ka S (js S.m.lv a)) t).2 (ptT n)).1).length<=10000):
  Calls prog 12 #[ptr gx,.int .i64 a] w fun e w'=>∃t k,k<=S.T.length/\(F≠0∨gP (ka S (js S.m.lv a)) r t)/\nV At w0 gd gx r (err (dZ D S t n a F q k).1) (dq D S t n a F q k) (dZ D S t n a F q k).2 E w e w':=by
 have l:=((Below.refl w.heap.size w).alloc (qK _) (.cells #[ptr gx] 33)).alloc (B:=w.heap.size) (by simp) (.cells #[.int .i64 a] 3);have P:jY ((w.alloc (.cells #[ptr gx] 33)).alloc (.cells #[.int .i64 a] 3)) w.heap.size 33 #[ptr gx]:=(jY.new w 33 #[ptr gx]).alloc _
 have O:jY ((w.alloc (.cells #[ptr gx] 33)).alloc (.cells #[.int .i64 a] 3)) (w.heap.size+1) 3 #[.int .i64 a]:=by
  have:=jY.new (w.alloc (.cells #[ptr gx] 33)) 3 #[.int .i64 a];rw[World.size_alloc]at this;exact this
 have aX:=qQ h.lt
 have s:=h.more api l (B:=[w.heap.size,w.heap.size+1]) (fun b hm=>by
  rcases qL.1 hm with e|hm
  ·rw[e];exact⟨qK _,P.lt⟩
  ·rw[qH.1 hm];exact⟨Nat.le_succ _,O.lt⟩)
 have aC:=qQ (jV.qn l aX.out);obtain⟨C,aN⟩:∃C,w.heap.size+1=C:=⟨_,rfl⟩
 rw[aN]at s O;obtain⟨gb,a5⟩:∃gb,w.heap.size=gb:=⟨_,rfl⟩
 rw[a5]at s P;obtain⟨u,bb⟩:∃u,(w.alloc (.cells #[ptr gx] 33)).alloc (.cells #[.int .i64 a] 3)=u:=⟨_,rfl⟩
 rw[bb]at s P O aC;have bv:gb+1=C:=by omega
 have c0:=s.xg.1;have a9:=qQ (nY c0);have U:=P.cell 0;have bk:=O.cell 0;obtain⟨A,cp,V,hv⟩:=s.x7;have ab:=BT _ S.m.lv a u.drew (hv.below (Below.refl _ _).drew (qK _)) (by have:=ok.may.2.2.2.2.1.2.1;omega) (by have:=ok.may.2.2.2.2.1.1;omega);rw[show mi u.drew S.m.lv a=fun e w'=>∃A c,e = .returned (.tuple #[.slice A (js S.m.lv a).length c,.int .i64 (ki S.m.lv a)])/\j4 w' u.drew.heap.size (.slice A (js S.m.lv a).length c) (js S.m.lv a)/\Below u.drew.heap.size u.drew w' from rfl,aw]at ab;have an:u.drew.cell? ⟨gb,0,none⟩=some (ptr gx)/\u.drew.cell? ⟨C,0,none⟩=some (.int .i64 a)/\u.drew.cell? ⟨gx,5,none⟩=some (.slice A S.m.lv.length cp):=⟨U,bk,V⟩
 have aI:Hid (∀w',Below u.drew.heap.size u.drew w'->w'.cell? ⟨gb,0,none⟩=some (ptr gx)/\w'.cell? ⟨C,0,none⟩=some (.int .i64 a)/\w'.cell? ⟨gx,5,none⟩=some (.slice A S.m.lv.length cp)):=qQ fun w' hw =>
  ⟨(hw.cell (p:=⟨gb,0,none⟩) (World.block_lt_of_cell? u _ U)).trans U,(hw.cell (p:=⟨C,0,none⟩) (World.block_lt_of_cell? u _ bk)).trans bk,(hw.cell (p:=⟨gx,5,none⟩) (World.block_lt_of_cell? u _ V)).trans V⟩
 have J:=qQ (qU s (qU P O));have v:=qQ ok;obtain⟨M,hM⟩:∃M,M=js S.m.lv a:=⟨_,rfl⟩
 rw[<-hM]at ab ai a4;obtain⟨y,au⟩:∃y,y=M.length:=⟨_,rfl⟩
 rw[<-au]at ab;have aH:=qQ ab;have G:=qQ (qU hM au);generalize S.m.lv.length=bi at*;clear h l P O s hv ab c0 ok aN hM au;go_enter func12,ntmps12;go_wp2_with fail;refine a9.out.mono ?_;rintro e w'⟨rfl,rfl⟩;go_wp2_with fail
 go_region_held3 (fun w'=>w'.cell? ⟨gb,0,none⟩=some (ptr gx)/\w'.cell? ⟨C,0,none⟩=some (.int .i64 a)/\w'.cell? ⟨gx,5,none⟩=some (.slice A bi cp))
  (first | (with_reducible assumption) | fail)
  (first
  | (go_at_call 43;((with_reducible refine aH.out.mono ?_);rintro e w2⟨N,c2,rfl,r2,b2⟩;have a2:=aI.out w2 b2))
  | fail)
 have ad:Below u.heap.size u w2:=(Below.refl _ u).drew.trans b2;have i2:=J.out.1.more api ad (B:=jF (.slice N y c2)) (fun b l=>r2.lt b (kG.1 l));have aD:=qQ (aC.out.trans (jV.qn ad (fun b l=>J.out.1.lt b (qJ _ l))));have aA:=qQ i2;have ay:=qQ (qU (jY.below J.out.2.1 ad) (jY.below J.out.2.2 ad));have aj:=qQ (j4.xQ r2);obtain⟨U,bk,V⟩:=a2;clear r2 b2 ad i2 an aI aH;by_cases af:F=0
 case neg =>
  have t1:((F:Int) != 0)=true:=by simp;omega
  have Z:=qQ (show ∀t k,dZ D S t n a F q k=(F,D)/\dq D S t n a F q k=S from fun t k=>⟨by unfold dZ;rw[qV af],by unfold dq;rw[qV af]⟩);have aZ:=qQ af;clear af X hc hn aq hr ht aw av ai I V;go_wp2;go_ret;refine⟨ByteArray.empty,0,qF _,qX aZ.out, ?_⟩;rw[(Z.out _ _).1,(Z.out _ _).2];exact⟨rfl,aA.out.less (fun b l=>qJ _ (qJ _ l)),aD.out⟩
 case pos =>
  subst af
  have aK:M.length<=1000000:=by
   rw[G.out.1];have s:(js S.m.lv a).length<=S.m.lv.flatten.length:=rm (Cg v.out.may.2.2.2.2.1.2.2.2) om;have:=v.out.may.2.2.2.2.1.2.1;omega
  have ah:=qK3 api nap aA.out v.out I (by omega) X (by omega) _ M aj.out (fun b l=>qG _ l) aK;unfold Jh at ah;obtain⟨na,ar⟩:∃na,na=(ka S M).length:=⟨_,rfl⟩
  have bm:=qQ ar;rw[<-ar]at ah;have aS:=qQ ah;clear ah ar aK V;go_wp2_with fail;refine aS.out.mono ?_;rintro e w3⟨A3,c3,k,hk,rfl,r3,i3,k3⟩;have ag:=k3.qa ay.out.1 (qJ _ (qG _ qD));have ax:=k3.qa ay.out.2 (qJ _ (qG _ (qE _ qD)));have ba:=qKk S.m.lv a n;have a7:=qKc v.out M
  have aF:=DK api nap iap (i3.drew api) ⟨I.synced,I.used,I.cap,I.many⟩ X (by show D.count+k<=_;have:=v.out.xE;omega) n hn aq v.out.seed hr _ (ka S M) (r3.xQ.below (Below.refl _ w3).drew (qK _)) (fun b l=>qG _ l) (by omega) (fun x K=>(ot v.out M x K).1) (Qj (Qz v.out M) (fun x K=>(ot v.out M x K).2)) S.m.check _ #[ptr gb,ptr C] (enters_of func45 (by kernel_rfl) rfl) (kN S.m.lv a n) q
   (fun W' D' hi aO=>qKy hi v.out.may (aO.qa ag.drew (qJ _ (qJ _ (qG _ qD)))) a (aO.qa ax.drew (qJ _ (qJ _ (qG _ (qE _ qD))))) n q av) (by omega) (by omega) (ai k · (by have:=v.out.xE;omega)) (by have:=v.out.xE;omega)
  have aG:=qQ aF;have an:w3.drew.cell? ⟨gb,0,none⟩=some (ptr gx)/\w3.drew.cell? ⟨gx,3,none⟩=some (.int .i64 S.m.check):=⟨ag.cell 0,i3.xg.2.2⟩
  have Y:=qQ (qU hk (qU (aD.out.trans (k3.less (fun b l=>qJ _ (qJ _ l)))) (qU ag (aj.out))));have a8:∀(fn:Fn) (first aJ:Array Value) (w:World),(Instr.makeFunc fn first aJ).run prog w = .ok (.func fn first aJ) w:=fun _ _ _ _=>rfl
  have az:=qQ (fun(D':jK) (t:Tw) (E':List Nat) (W:World) (h:jz At w0 gd gx r (yb S { D with count:=D.count+k } n (ka S M) t q (kN S.m.lv a n) S.m.check) D' E' W)=>(show W.cell? ⟨gx,3,none⟩=some (.int .i64 S.m.check) from by
   have:=h.xg.2.2;rw[qKg]at this;exact this))
  have aE:=qQ k3;have ac:=qQ I
  have Z:Hid (∀t,dZ D S t n a 0 q k=(if (v7 { D with count:=D.count+k } n (ka S M) t q (jv S (kN S.m.lv a n) S.m.check)).1≠0 then v7 { D with count:=D.count+k } n (ka S M) t q (jv S (kN S.m.lv a n) S.m.check) else fC (v7 { D with count:=D.count+k } n (ka S M) t q (jv S (kN S.m.lv a n) S.m.check)).2 M)/\dq D S t n a 0 q k=yb S { D with count:=D.count+k } n (ka S M) t q (kN S.m.lv a n) S.m.check):=qQ fun t=>by
   rw[G.out.1];exact⟨by unfold dZ;rw[qZ (by decide)],by unfold dq;rw[qZ (by decide)]⟩
  clear r3 i3 k3 ag ax hk ba a7 aF hn aq hr ht aw av ai X hc I bk;go_wp2_with fail
  go_region_held3 (fun w'=>w'.cell? ⟨gb,0,none⟩=some (ptr gx)/\w'.cell? ⟨gx,3,none⟩=some (.int .i64 S.m.check))
   (first | (with_reducible assumption) | fail)
   (first
   | (go_at_call 36;((with_reducible refine aG.out.mono ?_);rintro e w5⟨t,aM,⟨rfl,ao,ae⟩,a_⟩;have a3:w5.cell? ⟨gb,0,none⟩=some (ptr gx)/\w5.cell? ⟨gx,3,none⟩=some (.int .i64 S.m.check):=⟨(ae.qa Y.out.2.2.1.drew (qJ _ (qJ _ (qG _ qD)))).cell 0,az.out _ _ _ _ ao⟩))
   | fail)
  have aV:Hid (∀W,jV (jF (.slice N y c2)++([gb,C]++E)) w2 W->∀i x,M[i]? = some x->∃b o,N=some ⟨b,o,none⟩/\W.cell? ⟨b,o+i,none⟩=some (.int .i64 x)):=qQ fun W hW i x K=>by
   have s:=hW.ints aj.out (fun b l=>qG _ l);obtain⟨A',o',c',e,-,hc⟩:=s.form;obtain⟨rfl,-,-⟩:=Value.slice.inj e;obtain⟨b,e1,e2,e3⟩:=hc i x K;exact⟨b,o',e1,e3⟩
  have aB:=qQ ao;have aW:=qQ (aE.out.drew.trans (ae.less (fun b l=>qJ _ l)));have ak:=qQ (Y.out.2.1.drew.trans (ae.less (fun b l=>qJ _ (qJ _ (qJ _ l)))));have aU:Hid (∀W,jV (jF (.slice A3 na c3)++(jF (.slice N y c2)++([gb,C]++E))) w5 W->W.cell? ⟨gb,0,none⟩=some (ptr gx)):=qQ fun W hW=>((ae.trans hW).qa Y.out.2.2.1.drew (qJ _ (qJ _ (qG _ qD)))).cell 0
  have z:=qQ (qU (show gP (ka S (js S.m.lv a)) r t from by rw[<-G.out.1];exact aM) (Z.out t));have a1:=qQ (qKb (D:={ D with count:=D.count+k }) ⟨ac.out.synced,ac.out.used,ac.out.cap,ac.out.many⟩ n (ka S M) t q (jv S (kN S.m.lv a n) S.m.check));have al:=qQ Y.out.1
  have bp:y<=40:=by
   have s:(js S.m.lv a).length<=S.m.lv.flatten.length:=rm (Cg v.out.may.2.2.2.2.1.2.2.2) om;have:=v.out.may.2.2.2.2.1.2.1;rw[<-G.out.1,<-G.out.2]at s;omega
  have aY:Hid (∀i x,M[i]? = some x->(Lit.int .i64 x).wf=true):=qQ fun i x K=>by
   have aQ:x∈S.m.lv.flatten:=om x (by rw[<-G.out.1];exact qM K);have s:=v.out.may.2.2.2.2.1.2.2.1 x aQ;have h2:=v.out.may.2.2.2.2.2 x aQ;have h3:=v.out.may.2.1;exact WalkArith.wf_i64 (by omega)
  obtain⟨U,-⟩:=a3;clear ao ae a_ an aM Z az aG Y aE a8 ac;generalize yb S { D with count:=D.count+k } n (ka S M) t q (kN S.m.lv a n) S.m.check=S' at*;generalize v7 { D with count:=D.count+k } n (ka S M) t q (jv S (kN S.m.lv a n) S.m.check)=lp at*;obtain⟨aR,D5⟩:=lp;by_cases L:aR=0
  case neg =>
   have t1:((aR:Int) != 0)=true:=(by simp;omega);have HZ:=qQ L;clear L;go_wp2;go_ret;refine⟨t,k,al.out,(by first | exact z.out.1 | exact qY z.out.1), ?_⟩;rw[z.out.2.1,z.out.2.2,qV HZ.out];exact⟨rfl,aB.out.less (fun b l=>qJ _ (qJ _ (qJ _ l))),ak.out⟩
  case pos =>
   subst L;go_wp2;go_loopg [49] y (fun g i wr=>∃(j:Nat) (D':jK),j+g=y/\i = .int .i64 j/\fC D5 M=fC D' (M.drop j)/\WfP D'/\jz At w0 gd gx r S' D' (jF (.slice A3 na c3)++(jF (.slice N y c2)++([gb,C]++E))) wr/\jV (jF (.slice A3 na c3)++(jF (.slice N y c2)++([gb,C]++E))) w5 wr)
   case atStart=>exact⟨0,D5,by omega,rfl,by rw[List.drop_zero],a1.out,aB.out,jV.refl _ _⟩
   case round =>
    obtain⟨j,D',b1,rfl,he,hw,hi,aP⟩:=hrel;have HE:=qQ he;have HW:=qQ hw;have HI:=qQ hi;have HK:=qQ aP;clear he hw hi aP;cases gk with
    | zero =>
      obtain rfl:j=y:=(by omega);have s1:¬(j:Int)<(j:Int):=(by omega);have s:=HE.out;rw[G.out.2,List.drop_length]at s
      have aa:=qQ (show dZ D S t n a 0 q k=(0,D')/\dq D S t n a 0 q k=S' from by
       rw[z.out.2.1,z.out.2.2,qZ (by simp)];exact⟨s,rfl⟩)
      clear s;go_wp2;go_ret;refine⟨t,k,al.out,(by first | exact z.out.1 | exact qY z.out.1), ?_⟩;rw[aa.out.1,aa.out.2];exact⟨rfl,HI.out.less (fun b l=>qJ _ (qJ _ (qJ _ l))),ak.out.trans (HK.out.less (fun b l=>qJ _ (qJ _ (qJ _ l))))⟩
    | succ gi =>
      have a6:j<y:=(by omega);have s1:(j:Int)<(y:Int):=(by omega);have ap:j<M.length:=(by rw[<-G.out.2];exact a6);have aL:M.drop j=M[j]::M.drop (j+1):=List.drop_eq_getElem_cons ap;obtain⟨b,o,rfl,q1⟩:=aV.out wr (aW.out.trans (HK.out.less (fun b l=>qJ _ l))) j M[j] (qC ap);have wn:=aY.out j M[j] (qC ap);have aT:=qQ (HI.out.zE (f:=47) (args:=#[ptr gd,.int .i64 M[j]]) (Q:=fun e w'=>e = .returned (err (yf D' M[j]).1)) (fun E' _ X=>(Ci api nap X HW.out M[j] wn).mono fun e w' h=>⟨h.2.1,h.2.2,h.1⟩));have U:=aU.out wr HK.out;have c1:=HI.out.xg.2.1;have s:=HE.out;rw[aL,DV]at s;have J:=qQ s;have a0:=qQ (Ct HW.out M[j]);clear s aL wn HE;generalize M[j]=x at*;generalize yf D' x=dp at*;obtain⟨am,D6⟩:=dp;go_wp2_with fail;refine aT.out.mono ?_;rintro e w6⟨i6,k6,s6,rfl⟩;have H6:=qQ (qU i6 (HK.out.trans k6));clear i6 k6 s6;by_cases L:am=0
      ·subst L;have H2:=qQ (show fC D5 M=fC D6 (M.drop (j+1)) from by rw[J.out,qZ (by simp)]);go_wp2;go_roundg gi
       case measure=>omega
       case rel=>exact⟨j+1,D6,by omega,by go_num,H2.out,a0.out,H6.out.1,H6.out.2⟩
      ·have t1:((am:Int) != 0)=true:=by simp;omega
       have aa:=qQ (show dZ D S t n a 0 q k=(am,D6)/\dq D S t n a 0 q k=S' from by
        rw[z.out.2.1,z.out.2.2,qZ (by simp)];exact⟨by rw[J.out,qV L],rfl⟩)
       clear L;go_wp2;go_ret;refine⟨t,k,al.out,(by first | exact z.out.1 | exact qY z.out.1), ?_⟩;rw[aa.out.1,aa.out.2];exact⟨rfl,H6.out.1.less (fun b l=>qJ _ (qJ _ (qJ _ l))),ak.out.trans (H6.out.2.less (fun b l=>qJ _ (qJ _ (qJ _ l))))⟩
end
theorem Qv(D:jK)(k:Nat)(n:Tw)(a:D.down=false):(rdW { D with count:=k } n).1=(rdW D n).1/\(rdW { D with count:=k } n).2.1=(rdW D n).2.1/\∃j,j<=1/\(rdW { D with count:=k } n).2.2={ D with count:=k+j }:=by
 cases h:jW D.l n with
 | none =>
   rw[dd (D:=D) a h,dd (D:={ D with count:=k }) a h];exact⟨rfl,rfl,0,by omega,rfl⟩
 | some f =>
   rw[cW (D:=D) a h,cW (D:={ D with count:=k }) a h];exact⟨rfl,rfl,1,by omega,rfl⟩
theorem Jp(D:jK)(k:Nat)(n:Int)(a:D.down=false):jo { D with count:=k } n=jo D n/\∃j,j<=2/\ye { D with count:=k } n={ D with count:=k+j }:=by
 obtain⟨b,f,j,p,g⟩:=Qv D k (ptT n) a;have l:¬D.down=true:=by rw[a];decide
 refine⟨?_, ?_⟩
 ·unfold jo;rw[b,f]
 ·unfold ye;rw[qZ l,f,b,g];split
  ·exact⟨j,by omega,rfl⟩
  ·split
   ·exact⟨j,by omega,rfl⟩
   ·obtain⟨-,-,o,q,i⟩:=Qv D (k+j) (ptB n) a;rw[i];exact⟨j+o,by omega,by rw[Nat.add_assoc]⟩
theorem qKf{D:jK}{n:Int}(a:D.down=false)(h:jo D n=0):vO D n (tgL (rdW D (ptT n)).1):=by
 unfold jo at h;rw[qZ (by rw[a];decide)]at h;cases b:jW D.l (ptT n) with
 | none =>
   rw[dd a b]at h;simp at h
 | some f =>
   rw[cW a b]at h ⊢;simp at h;exact⟨f,b,h,rfl⟩
theorem vZ.low{w:World}{base base' g:Nat}{F:List Nat}{l:List jJ}(h:vZ w base g F l)(b:base'<=base):vZ w base' g F l:=by
 obtain⟨v,i,j,k,o,a,p,q⟩:=h;exact⟨v,i,j.down b,k,o,fun x f=>⟨qO b (a x f).1,(a x f).2⟩,p,q⟩
structure ow(At:jL)(w0:World)(gd gx r gm:Nat)(m:j5)(lv tv:Value)(ps:List Nat)(T:List TbS)(Gk:List Nat)(D:jK)(E:List Nat)(w:World):Prop where
 ds:DS At w0 gd D ([gm]++((gx::jF tv)++(Gk++E))) w
 qa:jY w gx 89 #[.pointer none,ptr gd,.int .i64 m.next,.int .i64 m.check,.int .u64 (m.seed:Nat),lv,tv,.float .f64 r,mtp gm]
 lv:uB w lv m.lv Gk
 row:vm w w0.heap.size tv ps
 xK:uC w gd ps T Gk
 mem:vZ w w0.heap.size gm [gm] []
 x5:gm ∉ gx::jF tv/\gm ∉ Gk/\gm ∉ E
 gr:∀b∈gx::jF tv,b ∉ Gk/\b ∉ E
 gk:∀b∈Gk,b ∉ E
 low:w0.heap.size<=gx
section
variable {At:jL}{w0 w w5 W:World}{gd gx r gm gt:Nat}{m:j5}{lv tv:Value}{ps H:List Nat}{T:List TbS}{Gk:List Nat}{D D':jK}{E E':List Nat}{t:TbS}
theorem ow.made(api:jM At)(h:ow At w0 gd gx r gm m lv tv ps T Gk D E w):jz At w0 gd gx r ⟨m,T,[]⟩ D E (w.setCell ⟨gx,0,none⟩ (ptr gx))/\jV E w (w.setCell ⟨gx,0,none⟩ (ptr gx)):=by
 have i:jG [gx] w (w.setCell ⟨gx,0,none⟩ (ptr gx)):=(jG.refl [gx] w).setCell (p:=⟨gx,0,none⟩) (qX (qH.2 rfl)) _;have g:=h.ds.lt
 have l:∀b∈[gm]++(jF tv++(Gk++E)),b<w.heap.size/\b ∉ [gx]:=fun b a=>by
  rcases qB.1 a with q|q
  ·refine⟨g b (qG _ q),fun f=>h.x5.1 ?_⟩;rw[<-qH.1 q,qH.1 f];exact qD
  ·rcases qB.1 q with q|q
   ·refine⟨g b (qJ _ (qG _ (qE _ q))),fun f=>?_⟩;exact vR h.row h.qa (by decide) (by rw[qH.1 f]at q;exact kG.1 q)
   ·rcases qB.1 q with q|q
    ·exact⟨g b (qJ _ (qJ _ (qG _ q))),fun f=>(h.gr gx qD).1 (by rw[<-qH.1 f];exact q)⟩
    ·exact⟨g b (qJ _ (qJ _ (qJ _ q))),fun f=>(h.gr gx qD).2 (by rw[<-qH.1 f];exact q)⟩
 have k:=jV.xB i l;refine⟨⟨[gm],gx::jF tv,Gk,h.ds.zX api i (fun b a=>by rw[qH.1 a];exact⟨qJ _ (qG _ qD),h.low⟩),⟨gm,lv,tv,ps,h.qa.put 0 (ptr gx),h.lv.step (k.less (fun b a=>qJ _ (qJ _ (qG _ a)))),k.xM h.row (fun b a=>qJ _ (qG _ a)),h.xK.keep k (fun b a=>qJ _ (qJ _ (qG _ a))),h.mem.keep k (fun b a=>qG _ a),qD,fun b a=>qE _ a,h.low⟩,fun b a=>by rw[qH.1 a];exact h.x5,h.gr,h.gk,fun b a=>?_⟩,k.less (fun b a=>qJ _ (qJ _ (qJ _ a)))⟩;rcases qB.1 a with q|q
 ·obtain⟨v,o,s,u,y,j,z,B⟩:=h.mem;exact(j b q).1
 ·rcases qL.1 q with e|q
  ·rw[e];exact h.low
  ·exact(h.row.lt b (kG.1 q)).1
theorem ow.next(api:jM At)(h:ow At w0 gd gx r gm m lv tv ps T Gk D E w)(B:DS At w0 gd D' (H++([gm]++((gx::jF tv)++(Gk++E)))) w5)(o:jV ([gm]++((gx::jF tv)++(Gk++E))) w w5)(u:∀b∈H,w.heap.size<=b)(U:yC w5 gt gd t.n t.l t.t H)(P:ps.length<=10000)(L:TypeId):
  ∃A n c g i j,tv = .slice A n c/\(Builtin.append_ #[86,86] L #[tv,.slice (some ⟨w5.heap.size,0,none⟩) 1 1]).run prog (w5.alloc (.cells #[ptr gt] 164)) = .ok (.slice g (n+1) i) j /\
   j.cell? ⟨gx,6,none⟩=some tv/\j.frozen? ⟨gx,6,none⟩=false/\ow At w0 gd gx r gm m lv (.slice g (n+1) i) (ps++[gt]) (T++[t]) (H++Gk) D' E (j.setCell ⟨gx,6,none⟩ (.slice g (n+1) i))/\jV E w (j.setCell ⟨gx,6,none⟩ (.slice g (n+1) i)):=by
 have k:=h.ds.lt;have v:=B.lt;have ab:=o.size;have F:=o.qa h.qa (qJ _ (qG _ qD));have C:=o.xM h.row (fun b a=>qJ _ (qG _ (qE _ a)));obtain⟨A,c,V,-,-,-⟩:=yw C;obtain⟨g,i,j,M,I,K,o9⟩:=DJ gt L C rfl P B.kept.size;have O:gx ∉ jF tv:=fun f=>vR C F (by decide) (kG.1 f)
 have s:=F.qe K O;have Q:(Value.slice g (ps.length+1) i).ownBlock≠some gx:=vR I s (by decide);have J:jG (gx::jF tv) w5 (j.setCell ⟨gx,6,none⟩ (.slice g (ps.length+1) i)):=(K.more (fun x X=>qX (qE _ X))).setCell (p:=⟨gx,6,none⟩) (qX qD) _;have Y:(j.setCell ⟨gx,6,none⟩ (.slice g (ps.length+1) i)).heap.size=j.heap.size:=by simp[World.setCell]
 have y:∀b∈gx::jF (.slice g (ps.length+1) i),b∈gx::jF tv∨(w5.heap.size<=b/\b<(j.setCell ⟨gx,6,none⟩ (.slice g (ps.length+1) i)).heap.size):=fun b a=>by
  rcases qL.1 a with e|q
  ·rw[e];exact qX qD
  ·rcases o9 b q with p|p
   ·exact qX (qE _ p)
   ·rw[Y];exact qY p
 have N:∀b∈[gm]++(H++(Gk++E)),b<w5.heap.size/\b ∉ gx::jF tv:=fun b a=>by
  rcases qB.1 a with q|q
  ·exact⟨v b (qJ _ (qG _ q)),fun f=>h.x5.1 (by rw[<-qH.1 q];exact f)⟩
  ·rcases qB.1 q with q|q
   ·refine⟨v b (qG _ q),fun f=>?_⟩;have:=u b q;have:=k b (qJ _ (qG _ f));omega
   ·refine⟨v b (qJ _ (qJ _ (qJ _ q))),fun f=>?_⟩;rcases qB.1 q with q|q
    ·exact(h.gr b f).1 q
    ·exact(h.gr b f).2 q
 have z:=jV.xB J N;have G:jV Gk w (j.setCell ⟨gx,6,none⟩ (.slice g (ps.length+1) i)):=(o.less (fun b a=>qJ _ (qJ _ (qG _ a)))).trans (z.less (fun b a=>qJ _ (qJ _ (qG _ a))));have aa:jV [gm] w (j.setCell ⟨gx,6,none⟩ (.slice g (ps.length+1) i)):=(o.less (fun b a=>qG _ a)).trans (z.less (fun b a=>qG _ a));have Z:jV E w (j.setCell ⟨gx,6,none⟩ (.slice g (ps.length+1) i)):=(o.less (fun b a=>qJ _ (qJ _ (qJ _ a)))).trans (z.less (fun b a=>qJ _ (qJ _ (qJ _ a))));refine⟨A,ps.length,c,g,i,j,V,M,s.cell 6,s.frozen 6,⟨B.xJ api J (fun b a=>⟨qJ _ (qJ _ (qG _ a)), ?_⟩) (fun b a=>?_),s.put 6 _,(h.lv.step G).more (fun b a=>qJ _ a),yH (p:=⟨gx,6,none⟩) I Q _,(h.xK.keep G (fun b a=>a)).snoc (U.keep z (fun b a=>qJ _ (qG _ a))),h.mem.keep aa (fun b a=>a),⟨fun f=>?_,fun f=>?_,h.x5.2.2⟩,fun b a=>⟨fun f=>?_,fun f=>?_⟩,fun b a f=>?_,h.low⟩,Z⟩
 ·rcases qL.1 a with e|q
  ·rw[e];exact h.low
  ·exact(h.row.lt b (kG.1 q)).1
 ·rcases qB.1 a with q|q
  ·exact qX (qJ _ (qG _ q))
  ·rcases qB.1 q with q|q
   ·rcases y b q with p|p
    ·exact qX (qJ _ (qJ _ (qG _ p)))
    ·exact qY p
   ·rcases qB.1 q with q|q
    ·rcases qB.1 q with q|q
     ·exact qX (qG _ q)
     ·exact qX (qJ _ (qJ _ (qJ _ (qG _ q))))
    ·exact qX (qJ _ (qJ _ (qJ _ (qJ _ q))))
 ·have:=k gm (qG _ qD);rcases y gm f with p|p
  ·exact h.x5.1 p
  ·omega
 ·have:=k gm (qG _ qD);rcases qB.1 f with p|p
  ·have:=u gm p;omega
  ·exact h.x5.2.1 p
 ·rcases y b a with p|p
  ·have:=k b (qJ _ (qG _ p));rcases qB.1 f with q|q
   ·have:=u b q;omega
   ·exact(h.gr b p).1 q
  ·rcases qB.1 f with q|q
   ·have:=v b (qG _ q);omega
   ·have:=k b (qJ _ (qJ _ (qG _ q)));omega
 ·rcases y b a with p|p
  ·exact(h.gr b p).2 f
  ·have:=k b (qJ _ (qJ _ (qJ _ f)));omega
 ·rcases qB.1 a with q|q
  ·have:=u b q;have:=k b (qJ _ (qJ _ (qJ _ f)));omega
  ·exact h.gk b q f
end
theorem qKh{w:World}{base i n c:Nat}{A:Option Addr}{l:List Int}{x:Int}(h:j4 w base (.slice A n c) l)(a:l[i]? = some x):∃b,A=some ⟨b,0,none⟩/\w.cell? ⟨b,i,none⟩=some (.int .i64 x):=by
 have y:=(qP.1 a).1;obtain⟨j,k,e,p,q,g,s⟩:=yw h;obtain⟨rfl,rfl,o⟩:=Value.slice.inj e;obtain⟨b,rfl,u,v⟩:=g (by omega);have f:w.ownsRow base 3 1 (.slice (some ⟨b,0,none⟩) l.length c) l.length _:=h;refine⟨b,rfl,(f.cellAt i (by omega)).trans ?_⟩;show(l.map _)[i]? = _;rw[qu,a];rfl
def qKl(At:jL)(w0:World)(gd r:Nat)(m:j5)(D:jK)(E:List Nat)(w:World)(e:Ending)(w':World):Prop :=
 (∃gx T j,e = .returned (.tuple #[ptr gx,.int .i64 0])/\T.map (fun t=>(t.n:Int))=m.lv.flatten/\(∀t∈T,vO D t.n t.l/\bf t.t t.l=true)/\j<=2*m.lv.flatten.length/\jz At w0 gd gx r ⟨m,T,[]⟩ { D with count:=D.count+j } E w'/\jV E w w') ∨
 (∃n j,n∈m.lv.flatten/\jo D n≠0/\j<=2*m.lv.flatten.length/\e = .returned (.tuple #[.pointer none,err (jo D n)])/\DS At w0 gd { D with count:=D.count+j } E w'/\jV E w w')
section
variable {At:jL}(api:jM At)(nap:jm){w0 w:World}{gd r:Nat}{D:jK}{E:List Nat}{n c:Int}{d:Nat}{A:Option Addr}{cp:Nat}{R:LvL}
include api
def Qy(At:jL)(w0:World)(gd gx r gm:Nat)(m:j5)(lv:Value)(a:Value)(D:jK)(E:List Nat)(w:World)(k:Nat)(tv:Value)(wr:World):Prop :=
 ∃ps T Gk j,ow At w0 gd gx r gm m lv tv ps T Gk { D with count:=D.count+j } (jF a++E) wr/\T.map (fun t=>(t.n:Int))=m.lv.flatten.take k/\(∀t∈T,vO D t.n t.l/\bf t.t t.l=true)/\j<=2*k/\jV E w wr/\j4 wr w.heap.size a m.lv.flatten
theorem qKm{w1 w2 g j w5:World}{m:j5}{v:Value}{G u:Nat}{A2:Option Addr}{i:Value}(h:DS At w0 gd D E w)(a:Below w.heap.size w (w.alloc (vU n c d v)))(I:Below (w.alloc (vU n c d v)).heap.size (w.alloc (vU n c d v)) w1)(J:Below w1.heap.size w1 w2)
  (U:vJ w2 w1.heap.size (.slice A2 G u) m.lv) (y:Below w2.heap.size w2 g) (F:vZ g w2.heap.size w2.heap.size [w2.heap.size] []) (O:w2.heap.size<g.heap.size)
  (X:jY j g.heap.size 89 #[.pointer none,ptr gd,.int .i64 m.next,.int .i64 m.check,.int .u64 (m.seed:Nat),.slice A2 G u,.slice none 0 0,.float .f64 r,mtp w2.heap.size]) (z:Below g.heap.size g j) (hz:j.heap.size=g.heap.size+1) (K:j4 w5 j.heap.size i m.lv.flatten) (l:Below j.heap.size j w5):
  Qy At w0 gd g.heap.size r w2.heap.size m (.slice A2 G u) i D E w 0 (.slice none 0 0) w5:=by
 obtain⟨k,o,V⟩:=U.keep;have s0:=a.size;have s1:=I.size;have s2:=J.size;have s3:=y.size;have s5:=l.size;have L:=bj a (bj I (bj J (bj y (bj z l))));have s:∀b∈jF i,j.heap.size<=b/\b<w5.heap.size:=fun b a=>K.lt b (kG.1 a)
 have p:=h.lt;have aa:=h.kept.size;have C:jF (.slice none 0 0)=[]:=rfl;have Y:=jV.qn (E:=k) (bj y (bj z l)) (fun b a=>(o b a).2);have Z:=jV.qn (E:=[w2.heap.size]) (bj z l) (fun b a=>by rw[qH.1 a];exact O)
 have N:DS At w0 gd D ([w2.heap.size]++((g.heap.size::jF (.slice none 0 0))++(k++(jF i++E)))) w5:=by
  refine((h.more api L (B:=[w2.heap.size]++([g.heap.size]++(k++jF i))) (fun b a=>?_)).less (fun b a=>?_))
  ·rcases qB.1 a with q|q
   ·rw[qH.1 q];omega
   ·rcases qB.1 q with q|q
    ·rw[qH.1 q];omega
    ·rcases qB.1 q with q|q
     ·have:=o b q;omega
     ·have:=s b q;omega
  ·rw[C]at a;simp only[List.mem_append,List.mem_cons,List.not_mem_nil,or_false]at a ⊢;rcases a with q|q|q|q|q<;>simp[q]
 have M:∀b∈k,b ∉ jF i++E:=fun b a f=>by
  have:=o b a;rcases qB.1 f with q|q
  ·have:=s b q;omega
  ·have:=p b q;omega
 have Q:g.heap.size ∉ jF i++E:=fun f=>by
  rcases qB.1 f with q|q
  ·have:=s _ q;omega
  ·have:=p _ q;omega
 have P:w2.heap.size ∉ jF i++E:=fun f=>by
  rcases qB.1 f with q|q
  ·have:=s _ q;omega
  ·have:=p _ q;omega
 refine⟨[],[],k,0,⟨N,X.below l,(V.step Y),vm.nil _ _,(uC.nil _ _).more (fun b a=>by cases a),(F.keep (E:=[w2.heap.size]) Z (fun b a=>a)).low (by omega),⟨?_, ?_,P⟩, ?_,M,by omega⟩,by simp,(fun t F=>by cases F),qK _,jV.qn L p,K.down (by omega)⟩
 ·rw[C];intro f;have:=qH.1 f;omega
 ·intro f;have:=o _ f;omega
 ·rw[C];intro b a;rw[qH.1 a];exact⟨fun f=>by have:=o _ f;omega,Q⟩
include nap in
theorem qKn(h:DS At w0 gd D E w)(G:WfP D)(z:D.down=false)(hc:D.count<=999990000)(hv:jn w (.slice A R.length cp) R)(B:jw ⟨n,c,d,R⟩)(aN:∀x∈R.flatten,jo D x=0->(tgL (rdW D (ptT x)).1).length<=10000):
  Calls prog 87 #[ptr gd,jr n c d (.slice A R.length cp),.float .f64 r] w (qKl At w0 gd r ⟨n,c,d,R⟩ D E w):=by
 have aI:R.flatten.length<=40:=B.2.2.2.2.1.2.1;have a2:R.length<=5:=B.2.2.2.2.1.1;have ar:∀x∈R.flatten,0<=x/\x<1000000:=fun x f=>⟨B.2.2.2.2.1.2.2.1 x f,by have:=B.2.2.2.2.2 x f;have:=B.2.1;show x<1000000;simp only at*;omega⟩
 have a:=(Below.refl w.heap.size w).alloc (qK _) (vU n c d (.slice A R.length cp));have aH:jY (w.alloc (vU n c d (.slice A R.length cp))) w.heap.size 40 #[.int .i64 n,.int .i64 c,.int .u64 (d:Nat),.slice A R.length cp]:=jY.new _ _ _;have ad:=qQ aH;have HB:=qQ a;have HS:=qQ ((h.below api a).size api G ⟨#[]⟩ (by decide));have ai:=hv.below a (qK _);have V:=qQ (JM n c d A R.length cp R _ ai (by omega) (by omega));have M:=qQ (fun W (hW:Below (w.alloc (vU n c d (.slice A R.length cp))).heap.size (w.alloc (vU n c d (.slice A R.length cp))) W)=>Cm n c d A cp R W (ai.below hW (qK _)) (by omega) (by omega));have I:=qQ (fun W (hW:Below (w.alloc (vU n c d (.slice A R.length cp))).heap.size (w.alloc (vU n c d (.slice A R.length cp))) W)=>me _ R W (ai.below hW (qK _)) (by omega) (by omega));have e1:dm ⟨n,c,d,R⟩=true:=qA B;rw[e1]at V
 have hz:(((jH D ⟨#[]⟩).2:Int)==1)=false/\(((jH D ⟨#[]⟩).2:Int)==61)=false:=by
  rcases sg D ⟨#[]⟩ with⟨q,-⟩|⟨-,e|e⟩
  ·rw[z]at q;cases q
  ·rw[e];exact⟨by decide,by decide⟩
  ·rw[e];exact⟨by decide,by decide⟩
 obtain⟨ba,bb⟩:=hz;have a6:=qQ G
 have aY:=qQ (fun(W:World) (E':List Nat) (j:Nat) (x:Int) (hj:j<=80) (f:x∈R.flatten) (hW:DS At w0 gd { D with count:=D.count+j } E' W)=>(show Calls prog 155 #[ptr gd,.int .i64 x] W (re At w0 gd x { D with count:=D.count+j } E' W) from by
  have:=ar x f;have hs:=Qv D (D.count+j) (ptT x) z;refine Cr api nap hW ⟨G.synced,G.used,G.cap,G.many⟩ (by show D.count+j<=_;omega) x (WalkArith.wf_i64 (by omega)) (fun ho=>?_);rw[hs.1];exact aN x f ((Jp D _ x z).1.symm.trans ho)))
 have aV:=qQ ar;have aA:=qQ (fun k x=>Jp D k x z);have aZ:=qQ (fun k x=>Qv D k (ptT x) z);have ay:=qQ (fun x (f:jo D x=0)=>qKf z f);have HD:=qQ h;obtain⟨l,aq⟩:∃l,l=R.length:=⟨_,rfl⟩
 unfold fB at M;unfold jr at V M ⊢;rw[<-aq]at V HS HB ad M I ⊢;have a5:=qQ aq;obtain⟨ns,ah⟩:∃ns,ns=R.flatten:=⟨_,rfl⟩
 have o:=qQ ah;unfold bI at I;obtain⟨N,hN⟩:∃N,N=ns.length:=⟨_,rfl⟩
 have a8:N<=40:=by rw[hN,ah];exact aI
 have P:=qQ hN;rw[<-ah]at I;rw[<-hN]at I;clear h a aH hv ai aq a2 aI ar G B aN e1 z ah hN;generalize (jH D ⟨#[]⟩).2=z2 at*;generalize (jH D ⟨#[]⟩).1=z1 at*;go_enter func87,ntmps87;go_wp2_with fail;refine HS.out.mono ?_;rintro e w'⟨rfl,rfl⟩;go_wp2_with fail;refine V.out.mono ?_;rintro e w1⟨rfl,ao⟩;have L:=qQ ao;have B1:=qQ (ad.out.below ao);obtain⟨c0,c1,c2,c3⟩:=mJ B1.out;clear ao;go_wp2_with fail;refine(M.out w1 L.out).mono ?_;rintro e F⟨u,y,rfl,aM,aF⟩;have az:=qQ aM;have aa:=qQ aF;clear aM aF;go_wp2_with fail;refine(RF F).mono ?_;rintro e s⟨rfl,aQ,aG,aJ⟩;have aB:=qQ aQ;have ab:=qQ aG;have ax:=qQ aJ;clear aQ aG aJ;have aw:=qQ (bj L.out (bj aa.out ab.out));have ap:=(Below.refl s.heap.size s).alloc (qK _) (.cells #[.pointer none,ptr gd,.int .i64 n,.int .i64 c,.int .u64 (d:Nat),.slice u l y,.slice none 0 0,.float .f64 r,mtp F.heap.size] 89);have am:=qQ (jY.new s 89 #[.pointer none,ptr gd,.int .i64 n,.int .i64 c,.int .u64 (d:Nat),.slice u l y,.slice none 0 0,.float .f64 r,mtp F.heap.size]);have ac:=qQ ap;have ak:=qQ (I.out _ (bj aw.out ac.out));have aP:(s.alloc (.cells #[.pointer none,ptr gd,.int .i64 n,.int .i64 c,.int .u64 (d:Nat),.slice u l y,.slice none 0 0,.float .f64 r,mtp F.heap.size] 89)).heap.size=s.heap.size+1:=by simp
 have al:=qQ aP;have a1:=(((ad.out.below (bj L.out aa.out)).below ab.out).below ap).cell 3;obtain⟨w4,au⟩:∃w4,w4=s.alloc (.cells #[.pointer none,ptr gd,.int .i64 n,.int .i64 c,.int .u64 (d:Nat),.slice u l y,.slice none 0 0,.float .f64 r,mtp F.heap.size] 89):=⟨_,rfl⟩
 rw[<-au]at am ac ak al;clear aP ap c0 c1 c2 c3 I M V HS;have aC:=qQ au;clear au;go_wp2_with fail;rw[<-aC.out];refine ak.out.mono ?_;rintro e w5⟨A7,c7,rfl,r7,b7⟩;have ae:Hid (Qy At w0 gd s.heap.size r F.heap.size ⟨n,c,d,R⟩ (.slice u l y) (.slice A7 N c7) D E w 0 (.slice none 0 0) w5):=qQ (qKm api HD.out (by rw[o.out,<-P.out]at*;exact HB.out) L.out aa.out az.out ab.out aB.out ax.out am.out ac.out al.out (by rw[<-o.out];exact r7) b7);clear a1 ad HB L B1 aa az ab aB ax am ac al aw ak aC r7 b7 HD;generalize s.heap.size=gx at*;generalize F.heap.size=gm at*;go_wp2;go_loopg [43] N (fun g i wr=>∃(k:Nat) (tv:Value),k+g=N/\i = .int .i64 k/\Qy At w0 gd gx r gm ⟨n,c,d,R⟩ (.slice u l y) (.slice A7 N c7) D E w k tv wr)
 case atStart=>exact⟨0,_,by omega,rfl,ae.out⟩
 case round =>
  obtain⟨k,tv,a_,rfl,hL⟩:=hrel;have HL:=qQ hL;clear hL ae;cases gk with
  | zero =>
    obtain rfl:k=N:=(by omega);have s1:¬(k:Int)<(k:Int):=(by omega);obtain⟨ps,T,Gk,j,p,hT,Y,hj,Z,hR⟩:=HL.out;have v:=qQ (p.made api);have f0:=p.qa.frozen 0;have q0:=p.qa.cell 0;have U:=qQ (show T.map (fun t=>(t.n:Int))=R.flatten from by rw[hT];show List.take k R.flatten=_;rw[<-o.out,P.out,List.take_length]);have HH:=qQ Y;have O:=qQ Z;have HJ:Hid (j<=2*R.flatten.length):=qQ (by rw[<-o.out,<-P.out];exact hj);clear p hT Y hj Z hR HL;go_wp2;go_ret2;exact qX ⟨gx,T,j,rfl,U.out,HH.out,HJ.out,v.out.1.less (fun b a=>qJ _ a),O.out.trans (v.out.2.less (fun b a=>qJ _ a))⟩
  | succ gi =>
    have a3:k<N:=(by omega);have s1:(k:Int)<(N:Int):=(by omega);obtain⟨ps,T,Gk,j,p,hT,Y,hj,Z,hR⟩:=HL.out;have a4:k<ns.length:=(by rw[<-P.out];exact a3);obtain⟨x,f⟩:∃x,ns[k]? = some x:=⟨_,qC a4⟩
    have av:x∈R.flatten:=(by rw[<-o.out];exact qM f);obtain⟨bp,rfl,qc⟩:=qKh hR (i:=k) (x:=x) (by show R.flatten[k]? = _;rw[<-o.out];exact f);have Q:=aY.out wr _ j x (by omega) av p.ds;unfold re at Q;rw[(aA.out (D.count+j) x).1,(aZ.out (D.count+j) x).1]at Q;obtain⟨j2,a9,e2⟩:=(aA.out (D.count+j) x).2;rw[e2]at Q;have af:=qQ Q;have HX:=qQ av;have a0:=qQ f;have v:=qQ p;have U:=qQ hT;have HH:=qQ Y;have O:=qQ Z;have HR:=qQ hR;clear p hT Y Z hR Q f av e2 HL;by_cases C:jo D x=0
    ·have J:=af.out.mono (fun e w' h=>(h.resolve_right (fun q=>q.1 C)).2);have aL:=UA (rdW { D with count:=D.count+j } (ptT x)).2.2 x (tgL (rdW D (ptT x)).1);have aK:=ay.out x C;generalize ldF (rdW { D with count:=D.count+j } (ptT x)).2.2 x (tgL (rdW D (ptT x)).1)=ft at*;generalize tgL (rdW D (ptT x)).1=fl at*;unfold rp at J;have ag:=qQ J;have aU:=qQ aL;have aS:=qQ aK;clear J aL aK C af ay;go_wp2_with fail;refine ag.out.mono ?_;rintro e w5⟨gt,H,rfl,hp,X,K,n5⟩;have c6:=(K.qa v.out.qa (qJ _ (qG _ qD))).cell 6;have aj:=(aV.out x HX.out).1
     have aO:ps.length<=10000:=by
      have h1:=v.out.xK.1;have h2:=congrArg List.length U.out;rw[qj,qS]at h2;omega
     obtain⟨A6,n6,a7,A9,c9,w9,rfl,e9,q9,f9,aE,an⟩:=v.out.next api (t:=⟨x.toNat,fl,ft⟩) X K n5 (by show yC w5 gt gd ((x.toNat:Nat):Int) fl ft H;rw[Int.toNat_of_nonneg aj];exact hp) aO 86;have HE:=qQ e9
     have aD:Qy At w0 gd gx r gm ⟨n,c,d,R⟩ (.slice u l y) (.slice (some ⟨bp,0,none⟩) N c7) D E w (k+1) (.slice A9 (n6+1) c9) (w9.setCell ⟨gx,6,none⟩ (.slice A9 (n6+1) c9)):=by
      refine⟨_,_,_,j+j2,by rw[<-Nat.add_assoc];exact aE, ?_,fun t ht=>?_,by omega,O.out.trans (an.less (fun b a=>qJ _ a)),an.zK HR.out (fun b a=>qG _ a)⟩
      ·rw[List.map_append,U.out,List.take_add_one];show _=List.take k R.flatten++(R.flatten[k]?).toList;rw[<-o.out,a0.out];show _++[((x.toNat:Nat):Int)]=_;rw[Int.toNat_of_nonneg aj];rfl
      ·rcases qB.1 ht with q|q
       ·exact HH.out t q
       ·rw[qH.1 q];refine⟨?_,aU.out⟩;show vO D ((x.toNat:Nat):Int) fl;rw[Int.toNat_of_nonneg aj];exact aS.out
     have ae:=qQ aD;clear aE an e9 aD hp X K n5 v U HH O HR aj aO;go_wp2_with (first | (at_builtin;refine yI rfl _ _ rfl rfl rfl HE.out ?_) | fail);go_roundg gi
     case measure=>omega
     case rel=>exact⟨k+1,_,by omega,by go_num,ae.out⟩
    ·have t2:((jo D x:Int) != 0)=true:=(by simpa using C);have J:=af.out.mono (fun e w' h=>(h.resolve_left (fun q=>C q.1)).2);have aW:=qQ C;have ag:=qQ J;obtain⟨oe,ho⟩:∃oe,oe=jo D x:=⟨_,rfl⟩
     rw[<-ho]at ag t2;have aX:=qQ ho;clear J C af ho;go_wp2_with fail;refine ag.out.mono ?_;rintro e w5⟨rfl,X,K⟩;have aR:=qQ X;have aT:=qQ K;clear X K;go_wp2;go_ret2;rw[aX.out];exact qY ⟨x,j+j2,HX.out,aW.out,by rw[<-o.out,<-P.out];omega,rfl,by rw[<-Nat.add_assoc];exact aR.out.less (fun b a=>qJ _ (qJ _ (qJ _ (qJ _ a)))),O.out.trans (aT.out.less (fun b a=>qJ _ (qJ _ (qJ _ (qJ _ a)))))⟩
end
end
end Go.Proofs.YtokbfellcadkpaaGreat

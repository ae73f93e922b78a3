import Derived.Test.YthejglbnkmimjaaGreatPp33
import Derived.Test.YthejglbnkmimjaaGreatPp21
import Derived.Test.YthejglbnkmimjaaGreatPp18
set_option linter.unusedVariables false
set_option maxRecDepth 100000
set_option maxHeartbeats 9000000
namespace Go.Proofs.YthejglbnkmimjaaGreat
open Proofs.Tryz
section
open Go.RowKit Go.Shelf
theorem qYQ{l:List Rec}(hw:∀x∈l,vZ x.2=true)(s:Tw)(a b:Int):kv s a (kA b) (jn l)=kv s a b (jn l):=by
 unfold kv;refine List.filter_congr fun x c=>?_
 have:=XW hw x (pC.1 c).1;unfold kA;exact decide_eq_decide.2 ⟨fun k=>⟨k.1,by omega⟩,fun k=>⟨k.1,by omega⟩⟩
def lT(At:j6)(w0:World)(gd gl gx gs r seed:Nat)(S:IxS)(L:jq)(chs:List (List Tw))(D:jL)(P:List jb)(m:Nat)(E:List Nat)(w:World)(e:Ending)(w':World):Prop :=
 ∃A c k,k<=m/\e=.returned (.tuple #[.slice A P.length c,.int .i64 0])/\kI w' w.1.size (.slice A P.length c) P/\jg At w0 gd gl gx gs r seed S L chs { D with count:=D.count+k } (jS (.slice A P.length c)++E) w'/\jM E w w'
section
variable {At:j6}(api:j8 At)(nap:kZ)(cap:v8){w0 w:World}{gd gl gx gs r seed:Nat}{S:IxS}{L:jq}{chs:List (List Tw)}{D:jL}{E:List Nat}
theorem qYX(h:jg At w0 gd gl gx gs r seed S L chs D E w)(s:Tw)(a b:Int){k:Nat}{e:jI}(o:(yF S (kx seed s.data.toList) a b)[k]? = some e):
  ∃(q:Nat) (p:Tw) (i:Nat),e=⟨kx seed s.data.toList,bgF p+(i:Nat),(q:Nat)⟩/\(q,p)∈jR 0 chs/\i<(bgL p).length/\(bgL p).length<=8/\0<=bgF p/\bgF p<=1073741824/\q<=819200/\uw (jR 0 chs) s e=if bgS p=s then [⟨s,bgF p+(i:Nat),(bgL p).getD i pE⟩] else []:=by
 obtain⟨l,d,-⟩:=(nr h.sx.ok _ a b e).1 (qN o);obtain⟨x,c,i,f,rfl⟩:=sy ((h.rb.has e).1 l);simp only at d;obtain⟨-,-,-,-,-,m⟩:=dY (h.rb.whole x c);obtain⟨-,-,-,g,j,t,-⟩:=bc.1 m;have v:=Dz h.sx.xF x c;have y:=sb h.sx.xF;exact⟨x.1,x.2,i,by rw[d],c,f,g,j,by omega,by omega,su (seed:=seed) h.xI c s f _⟩
include api nap cap
theorem KR(h:jg At w0 gd gl gx gs r seed S L chs D E w)(hc:D.count<=800000000)(hn:(jR 0 chs).length<=100)(s:Tw)(hz:s.size<=maxLen)(a b:Int)(wa:(Lit.int .i64 a).wf=true)(wb:(Lit.int .i64 b).wf=true):
  Calls prog 34 #[ptr gs,s,a,.int .i64 b] w (lT At w0 gd gl gx gs r seed S L chs D (kv s a b (jn (jR 0 chs))) (S.T.length+2*(yF S (kx seed s.data.toList) a b).length) E w):=by
 have aN:=qVL (seed:=seed) h.xI h.vs (pI h.sx.ok (kx seed s.data.toList) a b) s a (kA b) (fun y=>by rw[nr h.sx.ok,h.rb.has]);rw[qYQ h.rb.whole]at aN;have aJ:=h.base.size;have aK:=qQ h.lt;have cu:S.T.length<=40:=h.sx.ok.xS
 have bv:(yF S (kx seed s.data.toList) a b).length<=800:=by
  have h1:=mz seed (jR 0 chs) h.rb.whole;have h2:(yF S (kx seed s.data.toList) a b).length<=(yI seed (jR 0 chs)).length:=lO (pI h.sx.ok _ a b) (fun x U=>(h.rb.has x).1 ((nr h.sx.ok _ a b x).1 U).1);omega
 have b6:=h.len.2.2.2;have a4:kx seed s.data.toList<18446744073709551616:=XR _ _;have bi:=qQ (fun(k:Nat) (e:jI) he=>qYX h s a b (k:=k) (e:=e) he);have aW:=qQ (qVd api nap h (by omega))
 have aE:Hid (∀W,jg At w0 gd gl gx gs r seed S L chs D E W->Calls prog 60 #[ptr gx,.int .u64 (kx seed s.data.toList:Nat),a,.int .i64 b] W fun e w'=>∃A c k,k<=S.T.length/\e=.returned (.tuple #[.slice A (yF S (kx seed s.data.toList) a b).length c,.int .i64 0])/\ju w' W.1.size (.slice A (yF S (kx seed s.data.toList) a b).length c) (yF S (kx seed s.data.toList) a b) /\
   jg At w0 gd gl gx gs r seed S L chs { D with count:=D.count+k } (jS (.slice A (yF S (kx seed s.data.toList) a b).length c)++E) w'/\jM E W w'/\(w'.cell? ⟨gs,2,none⟩=some (ptr gx)/\w'.cell? ⟨gs,3,none⟩=some (.int .u64 (seed:Nat)))):=qQ fun W hW =>
  (qV9 api nap hW.sx (by omega) (by omega) _ a4 a b wa wb).mono (by
   rintro e w'⟨A,c,k,hk,rfl,J,hi,b4⟩;obtain⟨g1,g2⟩:=hW.stepG hi b4 (fun b o=>(J.lt b (ja.1 o)).1);exact⟨A,c,k,hk,rfl,J,g1,g2,g1.cells.2.2.1,g1.cells.2.2.2⟩)
 have aT:=qQ (fun W (hW:jg At w0 gd gl gx gs r seed S L chs D E W)=>KM hW.cells.2.2.2 h.sd s hz);have bb:=qQ (fun W cnt N (b3:cnt<=900000000) (hW:jg At w0 gd gl gx gs r seed S L chs { D with count:=cnt } (N++E) W) q p (hq:(q,p)∈jR 0 chs)=>qVi api nap cap hW b3 hq);have bk:=qQ h.xI;generalize kv s a b (jn (jR 0 chs))=P at*;generalize yF S (kx seed s.data.toList) a b=R at*;generalize kx seed s.data.toList=hh at*;obtain⟨n,aM⟩:∃n,n=R.length:=⟨_,rfl⟩
 rw[<-aM]at aE bv ⊢;have ao:=qQ aM;have HP:=qQ aN;clear aN h hn hz wa wb b6 a4 aM;go_enter func34,ntmps34;go_wp2_with fail;refine aW.out.mono ?_;rintro e w1⟨rfl,h1,k1⟩;have aq:=h1.drew api;obtain⟨-,-,c2,c3⟩:=aq.cells;have b1:w1.drew.cell? ⟨gs,2,none⟩=some (ptr gx)/\w1.drew.cell? ⟨gs,3,none⟩=some (.int .u64 (seed:Nat)):=⟨c2,c3⟩
 have aS:=qQ (aT.out _ aq);have aX:=qQ (aE.out _ aq);have aB:=qQ (show jM E w w1.drew from k1.drew);clear h1 k1 aq c2 c3 aT aE aW;go_wp2_with fail
 go_region_held3 (fun W=>W.cell? ⟨gs,2,none⟩=some (ptr gx)/\W.cell? ⟨gs,3,none⟩=some (.int .u64 (seed:Nat)))
  (first|(with_reducible assumption)|fail)
  (first
  | (go_at_call 61;((with_reducible refine X5 aS.out ?_)))
  | (go_at_call 60;((with_reducible refine aX.out.mono ?_);rintro e d⟨A,c,j,hj,rfl,aO,h2,k2,b2⟩))
  | fail)
 have ar:=(qG d.1.size d).alloc (qK _) (.cells #[.string ⟨#[]⟩,.int .i64 0,.slice none 0 0] 92);have B3:=jN.new d 92 #[.string ⟨#[]⟩,.int .i64 0,.slice none 0 0];have h3:=h2.more api ar (B:=[d.1.size]) (fun x U=>by rw[qH.1 U];exact⟨qK _,B3.lt⟩);have a5:jM E w (d.alloc (.cells #[.string ⟨#[]⟩,.int .i64 0,.slice none 0 0] 92)):=aB.out.trans (k2.trans (jM.xA ar (fun x U=>h2.lt x (qJ _ U))));have aR:w.1.size<=w1.1.size:=aB.out.size;have b7:w1.1.size<=d.1.size:=k2.size;have ba:=aO.below ar (qK _)
 have aZ:gg At w0 gd gl gx gs r seed S L chs D E w d.1.size (.slice A n c) R s 0 (.slice none 0 0) (-1) (D.count+j) ([d.1.size]++jS (.slice A n c)) (d.alloc (.cells #[.string ⟨#[]⟩,.int .i64 0,.slice none 0 0] 92)) :=
  ⟨kI.nil _ _,lC ba aR,qX ⟨rfl,B3⟩,by rw[qh];exact h3,a5,qW _ qC,(fun b o=>by cases ja.1 o),(fun b o=>qJ _ o),fun b o=>by
   rcases qD.1 o with q|q
   ·rw[qH.1 q];omega
   ·have:=(aO.lt b (ja.1 q)).1;exact qR aR this⟩
 have C:=qQ aZ;have HW:=qQ (show w.1.size<=d.1.size+1 by omega);have cR:j<=40:=by omega
 rename_i bp;clear aZ ba aR b7 a5 h3 B3 ar aO h2 k2 b2 b1 aS aX aB bp;obtain⟨w3,b8⟩:∃w3,d.alloc (.cells #[.string ⟨#[]⟩,.int .i64 0,.slice none 0 0] 92)=w3:=⟨_,rfl⟩
 rw[b8]at C;obtain⟨am,b_⟩:∃am,am=w.1.size:=⟨_,rfl⟩
 go_wp2;go_loopw [12,13,15,42] (fun bm lv av i wr=>∃(k:Nat) (a:Int) (cnt:Nat) (N:List Nat) (V:Option Addr) (n1 c1:Nat),k<=n/\bm=.int .i64 0/\lv=.slice V n1 c1/\av=.int .i64 a/\i=.int .i64 k/\(D.count<=cnt/\cnt<=D.count+j+2*k)/\gg At w0 gd gl gx gs r seed S L chs D E w d.1.size (.slice A n c) R s k (.slice V n1 c1) a cnt N wr) (fun _ _ _ i _=>n-(intOf i).toNat)
 case atStart=>exact⟨0,_,_,_,none,0,0,qI _,rfl,rfl,rfl,rfl,⟨Nat.le_add_right _ _,qK _⟩,C.out⟩
 case round =>
  obtain⟨k,a1,cnt,N,V,n1,c1,hk,rfl,rfl,rfl,rfl,cx,O⟩:=hrel;by_cases b5:k<n
  ·have s1:(k:Int)<(n:Int):=(by omega);obtain⟨e,he⟩:∃e,R[k]? = some e:=⟨_,qE (by rw[<-ao.out];exact b5)⟩
   obtain⟨q,p,m,rfl,hq,aI,a6,aG,aH,a_,a7⟩:=bi.out k e he;obtain⟨A',off,co,e1,-,a2⟩:=O.rv.xH.form;obtain⟨b0,rfl,cv,d0,d1,d2⟩:=a2 k _ he;obtain⟨rfl,-,-⟩:=Value.slice.inj e1;have a0:=(qG wr.1.size wr).alloc (qK _) (.cells #[.int .u64 (hh:Nat),.int .i64 (bgF p+(m:Nat)),.int .i64 (q:Nat)] 117);have B1:=jN.new wr 117 #[.int .u64 (hh:Nat),.int .i64 (bgF p+(m:Nat)),.int .i64 (q:Nat)];have ah:=O.zX api (by have:=O.kept.size;omega) a0 (B:=[wr.1.size]) (fun x U=>by rw[qH.1 U];exact⟨qK _,B1.lt⟩);obtain⟨Z,az⟩:∃Z,wr.alloc (.cells #[.int .u64 (hh:Nat),.int .i64 (bgF p+(m:Nat)),.int .i64 (q:Nat)] 117)=Z:=⟨_,rfl⟩
   have ca:am<=Z.1.size:=by
    have:=ah.kept.size;rw[az]at this;omega
   rw[az]at ah;rw[az]at B1;have ck:Hid (∀x∈E,x<Z.1.size):=qQ (fun x U=>ah.st.lt x (qJ _ U));simp only at d0 d1 d2;have p0:=B1.cell 0;have p1:=B1.cell 1;have p2:=B1.cell 2;have HE:=qQ he;have ae:=qQ a7;have C:=qQ ah;have aC:=qQ B1;obtain⟨f,I⟩:∃f,f=bgF p:=⟨_,rfl⟩
   obtain⟨v1,ac⟩:∃v1,v1=bgF p+(m:Int):=⟨_,rfl⟩
   have ap:IntKind.i64.wrap (v1-f)=(m:Int):=(by rw[ac,I,IntKind.wrap_i64];omega);have cp:v1-f=(m:Int):=(by rw[ac,I];omega);rw[<-ac]at d1 p1 HE ae az aC;clear O ah B1 a0 he a7 e1 a2;have aY:=qQ (show v1=f+(m:Int) by rw[ac,I]);have ci:=qQ I;have aU:=qQ aI;have ag:=qQ b_;obtain⟨t,Y⟩:∃t,t=(bgL p).length:=⟨_,rfl⟩
   have aV:=qQ Y;have cy:m<t:=(by omega);have c4:t<=8:=(by omega);have a3:0<=f/\f<=1073741824:=(by rw[I];exact⟨aG,aH⟩);have c5:(m:Int)<(t:Int):=(by omega);have c6:(m:Int)≥0:=(by omega);by_cases ha:a1=(q:Int)
   ·subst ha;have cc:((q:Int) != (q:Int))=false:=(by simp);have ce:((q:Int)==(q:Int))=true:=(by simp);rcases C.out.box with⟨e,-⟩|⟨q',p',F,c2,e,a9,BB,J,ho⟩
    ·omega
    have a8:p'=p:=by
     have h1:=Dh bk.out a9 hq (show q'=q by omega);exact congrArg Prod.snd h1
    rw[a8]at BB J;rw[<-Y,<-I]at BB;rw[<-Y]at J;have q0:=BB.cell 0;have q1:=BB.cell 1;have q2:=BB.cell 2;have aj:D.count<=cnt/\cnt<=D.count+j+2*(k+1):=(by omega);have aA:Hid (mj Z w.1.size (.slice F t c2) (bgL p)):=qQ (by rw[Y]at J ⊢;exact J);have aF:Hid (am<=Z.1.size):=qQ ca;clear I ac Y aI a6 aG aH BB J ho hq a9 a8 e a_;obtain⟨z,rfl⟩:∃z,z=Z:=⟨_,rfl⟩
    obtain⟨v,Q⟩:∃v,v=bgS p:=⟨_,rfl⟩
    have af:=qQ Q;rw[<-Q]at q0;by_cases g:v=s
    ·have aQ:(v.toList==s.toList)=true:=ox g;have l:=ae.out;rw[qV (by rw[<-af.out];exact g)]at l;obtain⟨x,aa⟩:∃x,x=(bgL p).getD m pE:=⟨_,rfl⟩
     have al:(bgL p)[m]? = some x:=(by rw[aa,qj,qE aU.out];rfl);rw[<-aa]at l;have K:=qQ (KO v f (.slice F t c2) (bgL p) z (vr.xy aA.out) m x al a3 (by rw[<-aV.out];omega));rw[<-aY.out,g]at K;have HT:=qQ (fun W (o:Below z.1.size z W)=>(C.out.below api o).more api (by have:=aF.out;have:=ag.out;have:=o.size;omega) aJ (by rw[<-ao.out];omega) HE.out l aK.out 36);unfold ve at K;rw[g]at q0;clear g l aa al Q ap;go_wp2_with fail;refine KG K.out fun wB ai=>?_;obtain⟨cb,N',w9,X,M⟩:=HT.out wB ai;have ad:=qQ X;have aL:=vl M.row;obtain⟨A9,c9,rfl,-,-,-⟩:=aL;obtain⟨n9,ak⟩:∃n9,n9=((R.take (k+1)).flatMap (uw (jR 0 chs) s)).length:=⟨_,rfl⟩
     rw[<-ak]at M ad;have H9:=qQ M;clear X M ai HT K ak;go_wp2_with (first|(at_builtin;refine yC rfl _ _ rfl rfl rfl ad.out ?_)|fail);go_wp2;go_roundw
     case rel=>exact⟨k+1,_,_,N',A9,_,c9,by omega,rfl,rfl,rfl,by go_num,aj,H9.out⟩
     case measure=>simp[intOf];omega
    ·have aQ:(v.toList==s.toList)=false:=rn g;have l:=ae.out;rw[qZ (by rw[<-af.out];exact g)]at l;have H9:=qQ (C.out.skip HE.out l);clear g l Q ap;go_wp2;go_roundw
     case rel=>exact⟨k+1,_,_,_,V,n1,c1,by omega,rfl,rfl,rfl,by go_num,aj,H9.out⟩
     case measure=>simp[intOf];omega
   ·have cc:((q:Int) != a1)=true:=(by simp;omega);have ce:((q:Int)==a1)=false:=qg.2 (by omega);have an:=qQ (bb.out Z cnt ([wr.1.size]++N) (by omega) C.out.st q p hq);have aD:=qQ (fun W' A c J g hk=>C.out.read (w':=W') (A:=A) (c:=c) (p:=p) api aJ (by have:=ag.out;omega) aK.out hq J g hk);unfold ve at an;rw[<-Y,<-I]at an;rw[<-Y,<-I]at aD;clear I ac Y aI a6 aG aH a_;go_wp2_with fail;refine an.out.mono ?_;rintro e w6⟨F,c2,rfl,ax,h6,k6⟩;obtain⟨⟨t0,t1,t2,H⟩,h7⟩:=aD.out w6 F c2 ax h6 k6;have ab:=k6.xW aC.out (qW _ (qW _ qC));have au:wr.1.size≠d.1.size:=jN.xe ab H (by decide);have BP:=((H.put 0 (.string (bgS p))).put 1 (.int .i64 f)).put 2 (.slice F t c2);have BO:=((ab.xD (p:=⟨d.1.size,0,none⟩) au (.string (bgS p))).xD (p:=⟨d.1.size,1,none⟩) au (.int .i64 f)).xD (p:=⟨d.1.size,2,none⟩) au (.slice F t c2);have aw:=vO ax H (by decide);have aP:=vz (vz (vz ax (p:=⟨d.1.size,0,none⟩) aw (.string (bgS p))) (p:=⟨d.1.size,1,none⟩) aw (.int .i64 f)) (p:=⟨d.1.size,2,none⟩) aw (.slice F t c2);have g0:=H.frozen 0;have g1:=H.frozen 1;have g2:=H.frozen 2;have j0:=H.cell 0;have j1:=H.cell 1;have j2:=H.cell 2;have o0:=ab.cell 0;have o1:=ab.cell 1;have o2:=ab.cell 2;have aj:D.count<=cnt+2/\cnt+2<=D.count+j+2*(k+1):=(by omega);obtain⟨z,b9⟩:∃z,((w6.setCell ⟨d.1.size,0,none⟩ (.string (bgS p))).setCell ⟨d.1.size,1,none⟩ (.int .i64 f)).setCell ⟨d.1.size,2,none⟩ (.slice F t c2)=z:=⟨_,rfl⟩
    rw[b9]at h7 BP BO aP;have q0:=BP.cell 0;have q1:=BP.cell 1;have q2:=BP.cell 2;clear p0 p1 p2;have p0:=BO.cell 0;have p1:=BO.cell 1;have p2:=BO.cell 2;have aF:Hid (am<=z.1.size):=qQ (by have:=h7.kept.size;have:=ag.out;omega);have aA:Hid (mj z w.1.size (.slice F t c2) (bgL p)):=qQ (lC aP (by have:=ag.out;omega));clear C;have C:=qQ h7;clear h7 BP BO aP aw au H ab ax h6 k6 aD an aC;obtain⟨v,Q⟩:∃v,v=bgS p:=⟨_,rfl⟩
    have af:=qQ Q;rw[<-Q]at q0;by_cases g:v=s
    ·have aQ:(v.toList==s.toList)=true:=ox g;have l:=ae.out;rw[qV (by rw[<-af.out];exact g)]at l;obtain⟨x,aa⟩:∃x,x=(bgL p).getD m pE:=⟨_,rfl⟩
     have al:(bgL p)[m]? = some x:=(by rw[aa,qj,qE aU.out];rfl);rw[<-aa]at l;have K:=qQ (KO v f (.slice F t c2) (bgL p) z (vr.xy aA.out) m x al a3 (by rw[<-aV.out];omega));rw[<-aY.out,g]at K;have HT:=qQ (fun W (o:Below z.1.size z W)=>(C.out.below api o).more api (by have:=aF.out;have:=ag.out;have:=o.size;omega) aJ (by rw[<-ao.out];omega) HE.out l aK.out 36);unfold ve at K;rw[g]at q0;clear g l aa al Q ap;go_wp2_with fail;refine KG K.out fun wB ai=>?_;obtain⟨cb,N',w9,X,M⟩:=HT.out wB ai;have ad:=qQ X;have aL:=vl M.row;obtain⟨A9,c9,rfl,-,-,-⟩:=aL;obtain⟨n9,ak⟩:∃n9,n9=((R.take (k+1)).flatMap (uw (jR 0 chs) s)).length:=⟨_,rfl⟩
     rw[<-ak]at M ad;have H9:=qQ M;clear X M ai HT K ak;go_wp2_with (first|(at_builtin;refine yC rfl _ _ rfl rfl rfl ad.out ?_)|fail);go_wp2;go_roundw
     case rel=>exact⟨k+1,_,_,N',A9,_,c9,by omega,rfl,rfl,rfl,by go_num,aj,H9.out⟩
     case measure=>simp[intOf];omega
    ·have aQ:(v.toList==s.toList)=false:=rn g;have l:=ae.out;rw[qZ (by rw[<-af.out];exact g)]at l;have H9:=qQ (C.out.skip HE.out l);clear g l Q ap;go_wp2;go_roundw
     case rel=>exact⟨k+1,_,_,_,V,n1,c1,by omega,rfl,rfl,rfl,by go_num,aj,H9.out⟩
     case measure=>simp[intOf];omega
  ·obtain rfl:k=n:=(by omega);have s1:¬(k:Int)<(k:Int):=(by omega);have ay:=O.row;rw[qm (by rw[<-ao.out];exact qK _),HP.out]at ay;obtain⟨A9,c9,X,-,-,-⟩:=vl ay;obtain⟨rfl,rfl,rfl⟩:=Value.slice.inj X
   have hst:jg At w0 gd gl gx gs r seed S L chs { D with count:=D.count+(cnt-D.count) } (jS (.slice V P.length c1)++E) wr:=by
    rw[show D.count+(cnt-D.count)=cnt by omega];exact O.st.less (fun b o=>(qD.1 o).elim (fun q=>qW _ (O.ol b q)) (fun q=>qJ _ q))
   have hF:lT At w0 gd gl gx gs r seed S L chs D P (S.T.length+2*k) E w (.returned (.tuple #[.slice V P.length c1,.int .i64 0])) wr:=⟨V,c1,cnt-D.count,by omega,rfl,ay,hst,O.kept⟩
   have HF:=qQ hF;clear hF hst ay X O;go_wp2;go_ret2;exact HF.out
end
theorem qYZ{seed:Nat}{l:List Rec}{s:Tw}{x:jb}(f:x∈ofT s (jn l)):∃y∈yI seed l,y.h=kx seed s.data.toList/\y.v=x.v:=by
 obtain⟨b,d⟩:=pC.1 f;obtain⟨a,k,b⟩:=xV.1 b;obtain⟨i,c⟩:=ql b;unfold uN at c;rw[mS]at c;obtain⟨y,g,rfl⟩:=xG.1 c;have j:=(qO.1 g).1;simp only at d;exact⟨⟨kx seed (bgS a.2).data.toList,bgF a.2+(i:Nat),(a.1:Nat)⟩,mR.2 ⟨a,k,qP.2 ⟨i,List.mem_range.2 j,rfl⟩⟩,by rw[<-d],rfl⟩
theorem qYJ{s:Tw}{a b:Int}{T:List jb}(h:kv s a b T=[]):∀x∈ofT s T,x.v<=b->x.v<a:=fun x f d=>by
 rcases Int.lt_or_le x.v a with c|c
 ·exact c
 ·have:x∈kv s a b T:=pD.2 ⟨f,c,d⟩;rw[h]at this;cases this
section
variable {At:j6}(api:j8 At)(nap:kZ)(cap:v8){w0 w:World}{gd gl gx gs r seed:Nat}{S:IxS}{L:jq}{chs:List (List Tw)}{D:jL}{E:List Nat}
theorem qYK(h:jg At w0 gd gl gx gs r seed S L chs D E w){s:Tw}{u z:Int}(F:u<=1073741824)(m:ua (uU S) (kx seed s.data.toList) (kA u) z)(o:∀x∈ofT s (jn (jR 0 chs)),x.v<=u):(∀x∈ofT s (jn (jR 0 chs)),x.v<=z)/\-1<=z/\z<=1073741823/\(0<=z->z<=u):=by
 obtain⟨f,c,t⟩:=m;have j:kA u=u:=by unfold kA;omega
 rw[j]at f c;refine⟨fun x a=>?_,t, ?_,fun C=>?_⟩
 ·obtain⟨y,p,d,A⟩:=qYZ (seed:=seed) a;have:=f y ((h.rb.has y).2 p) d (by rw[A];exact o x a);omega
 ·rcases c with e|⟨y,d,-,-,g⟩
  ·omega
  ·obtain⟨b,q,i,k,rfl⟩:=sy ((h.rb.has y).1 d);have:=XW (l:=[b]) (fun x a=>by rw[qH.1 a];exact h.rb.whole b q) _ (xV.2 ⟨b,qC,XK k⟩);simp only at this g;omega
 ·rcases c with e|⟨y,-,-,H,g⟩
  ·omega
  ·omega
include api nap cap
theorem FU(h:jg At w0 gd gl gx gs r seed S L chs D E w)(hc:D.count<=700000000)(p:(jR 0 chs).length<=100)(s:Tw)(U:s.size<=maxLen):
  Calls prog 41 #[ptr gs,s] w fun e w'=>∃k,k<=70000/\e=.returned (.tuple #[.int .i64 (bw s (jn (jR 0 chs))),.int .i64 0])/\jg At w0 gd gl gx gs r seed S L chs { D with count:=D.count+k } E w'/\jM E w w':=by
 have ah:kx seed s.data.toList<18446744073709551616:=XR _ _;have az:=h.len.2.2.2;have ai:=h.sd;have aF:S.T.length<=40:=h.sx.ok.xS;have am:=qQ (fun W cnt (f:jg At w0 gd gl gx gs r seed S L chs { D with count:=cnt } E W)=>KM f.cells.2.2.2 ai s U)
 have an:Hid (∀W cnt,cnt<=900000000->jg At w0 gd gl gx gs r seed S L chs { D with count:=cnt } E W->∀u:Int,0<=u->u<=1073741824->(∀x∈ofT s (jn (jR 0 chs)),x.v<=u)->Calls prog 86 #[ptr gx,.int .u64 (kx seed s.data.toList:Nat),.int .i64 u] W fun e w'=>∃(z:Int) (k:Nat),k<=200/\((∀x∈ofT s (jn (jR 0 chs)),x.v<=z)/\-1<=z/\z<=1073741823/\(0<=z->z<=u))/\e=.returned (.tuple #[z,.int .i64 0]) /\
   jg At w0 gd gl gx gs r seed S L chs { D with count:=cnt+k } E w'/\jM E W w'/\(w'.cell? ⟨gs,2,none⟩=some (ptr gx)/\w'.cell? ⟨gs,3,none⟩=some (.int .u64 (seed:Nat)))):=qQ fun W cnt ag f u u0 u1 C =>
  (qVq api nap f.sx (by show cnt<=_;omega) (by omega) _ ah u (WalkArith.wf_i64 (by omega))).mono (by
   rintro e w'⟨z,k,hk,ht,rfl,hi,ay⟩;obtain⟨M,g2⟩:=f.step hi ay f.rb f.vs;exact⟨z,k,hk,qYK f u1 ht C,rfl,M,g2,M.cells.2.2.1,M.cells.2.2.2⟩)
 have al:Hid (∀W cnt,cnt<=800000000->jg At w0 gd gl gx gs r seed S L chs { D with count:=cnt } E W->∀a b:Int,-1073741825<=a->a<=1073741825->-1<=b->b<=1073741825->Calls prog 34 #[ptr gs,s,.int .i64 a,.int .i64 b] W (lT At w0 gd gl gx gs r seed S L chs { D with count:=cnt } (kv s a b (jn (jR 0 chs))) 1700 E W)):=qQ fun W cnt ag f a b a0 a1 b0 b1 =>
  (KR api nap cap f ag p s U a b (WalkArith.wf_i64 (by omega)) (WalkArith.wf_i64 (by omega))).mono (by
   rintro e w'⟨A,c,k,hk,rest⟩;refine⟨A,c,k, ?_,rest⟩;have y:=mz seed (jR 0 chs) f.rb.whole;have F:(yF S (kx seed s.data.toList) a b).length<=(yI seed (jR 0 chs)).length:=lO (pI f.sx.ok _ a b) (fun x d=>(f.rb.has x).1 ((nr f.sx.ok _ a b x).1 d).1);omega)
 have ar:=qQ h.vs;have aq:=qQ (show(jn (jR 0 chs)).length<=800 by have:=nd (jR 0 chs) h.rb.whole;omega);have ap:=qQ h;have ac:Hid (∀x∈ofT s (jn (jR 0 chs)),0<=x.v/\x.v<=1073741824):=qQ fun x d=>by have:=XW h.rb.whole x (pC.1 d).1;omega
 have aD:=qQ h.lt;generalize jn (jR 0 chs)=T at*;generalize kx seed s.data.toList=hh at*;clear h ah az ai p U;go_enter func41,ntmps41;go_wp2;go_loopw [6,7] (fun up mv wr=>∃(u:Int) (j m cnt:Nat),up=.int .i64 u/\mv=.int .i64 (m:Nat)/\m=2 ^ j/\j<=30/\0<=u/\u<=1073741824/\(∀x∈ofT s T,x.v<=u)/\D.count<=cnt/\cnt<=D.count+2000*j/\jg At w0 gd gl gx gs r seed S L chs { D with count:=cnt } E wr/\jM E w wr) (fun up _ _=>(intOf up).toNat)
 case atStart=>exact⟨1073741824,0,1,D.count,rfl,rfl,rfl,by omega,by omega,by omega,fun x d=>(ac.out x d).2,qK _,qK _,ap.out,jM.refl _ _⟩
 case round =>
  obtain⟨u,j,m,cnt,rfl,rfl,I,hj,aA,aB,C,aH,aI,hS,hK⟩:=hrel
  have aN:m<=1073741824:=by
   have:=Nat.pow_le_pow_right (show 0<2 by decide) hj;rw[I];exact this
  have aL:1<=m:=by rw[I];exact Nat.one_le_two_pow
  have H:=hS.drew api;obtain⟨-,-,c2,c3⟩:=H.cells;have av:wr.drew.cell? ⟨gs,2,none⟩=some (ptr gx)/\wr.drew.cell? ⟨gs,3,none⟩=some (.int .u64 (seed:Nat)):=⟨c2,c3⟩
  have Y:=qQ (am.out _ cnt H);have ab:=qQ (an.out _ cnt (by omega) H u aA aB C);have Z:=qQ (show jM E w wr.drew from hK.drew);have HM:=qQ (qU I C);clear hS H hK I C c2 c3;go_wp2_with fail
  go_region_held3 (fun W=>W.cell? ⟨gs,2,none⟩=some (ptr gx)/\W.cell? ⟨gs,3,none⟩=some (.int .u64 (seed:Nat)))
   (first|(with_reducible assumption)|fail)
   (first
   | (go_at_call 61;((with_reducible refine X5 Y.out ?_)))
   | (go_at_call 86;((with_reducible refine ab.out.mono ?_);rintro e w2⟨z,l,aJ,aC,rfl,F,k2,aw⟩))
   | fail)
  rename_i au;obtain⟨z1,z2,z3,V⟩:=aC;have ea:z-(m:Int)+1=z-(m:Int)+1:=rfl;have X:=qQ (al.out w2 (cnt+l) (by omega) F (z-(m:Int)+1) z (by omega) (by omega) (by omega) (by omega));have K:=qQ z1;have aa:=qQ (Z.out.trans k2);clear F k2 aw av au Y ab Z ea z1;go_wp2_with fail;refine X.out.mono ?_;rintro e w3⟨A,c,o,aK,rfl,R,O,ak⟩;obtain⟨P,t⟩:∃P,P=kv s (z-(m:Int)+1) z T:=⟨_,rfl⟩
  rw[<-t]at R O ⊢;obtain⟨n,p⟩:∃n,n=P.length:=⟨_,rfl⟩
  have hF:=R.xH.form;have ad:jg At w0 gd gl gx gs r seed S L chs { D with count:=cnt+l+o } E w3:=O.less (fun b hb=>qJ _ hb);have q:=qQ (qU ad (aa.out.trans ak));clear O ad R ak X aa;rw[<-p]at hF ⊢;by_cases h0:n=0
  ·have ae:P=[]:=xK.1 (by omega);have J:=qQ (qYJ (by rw[<-t];exact ae));subst h0;clear hF t ae p;by_cases aO:z<(m:Int)
   ·have HV:Hid (bw s T = -1):=qQ (by
     have:ofT s T=[]:=by
      refine List.eq_nil_iff_forall_not_mem.2 fun x d=>?_
      have y:=J.out x d (K.out x d);have F:=(ac.out x d).1;omega
     unfold bw;rw[this];rfl)
    clear J;go_wp2;go_ret2;refine⟨cnt+l+o-D.count,by omega,by rw[HV.out];rfl, ?_,q.out.2⟩;rw[show D.count+(cnt+l+o-D.count)=cnt+l+o by omega];exact q.out.1
   ·have aM:j<=29:=by
     rcases qd j 30 with c|c
     ·omega
     ·exfalso;have y:=Nat.pow_le_pow_right (show 0<2 by decide) c;rw[<-HM.out.1]at y;have:(2:Nat) ^ 30=1073741824:=(by decide);omega
    have aP:=V (by omega);clear V;go_wp2;go_roundw
    case rel =>
     refine⟨z-(m:Int),j+1,m*2,cnt+l+o,by go_num,by go_num,by rw[Nat.pow_succ,<-HM.out.1],by omega,by omega,by omega,fun x d=>?_,by omega,by omega,q.out.1,q.out.2⟩;have y:=J.out x d (K.out x d);omega
    case measure=>simp[intOf];omega
  ·obtain⟨g,rfl⟩:∃g,n=g+1:=⟨n-1,by omega⟩
   obtain⟨x,d⟩:∃x,P[g]? = some x:=⟨_,qE (by omega)⟩
   have aj:P.getLast? = some x:=(by rw[List.getLast?_eq_getElem?,<-p];exact d);have hv:x.v=bw s T:=qVM ar.out K.out (by rw[<-t];exact aj);obtain⟨A',off,aE,e1,-,af⟩:=hF;obtain⟨b0,rfl,aG,d0,d1,-⟩:=af g x d;obtain⟨rfl,-,-⟩:=Value.slice.inj e1;obtain⟨lt,Q⟩:∃lt,lt=bw s T:=⟨_,rfl⟩
   rw[hv,<-Q]at d1;have ao:=qQ Q;have s1:((g+1:Nat):Int)-1=(g:Int):=(by omega);have s2:(g:Int)<((g+1:Nat):Int):=by omega
   have ax:g<800:=by
    have y:P.length<=T.length:=(by rw[t];exact qR (List.length_filter_le _ _) (List.length_filter_le _ _));have:=aq.out;omega
   have s3:(g:Int)<800:=(by omega);clear ax;clear e1 af hv aj d t p d0 V Q;go_wp2;go_ret2;refine⟨cnt+l+o-D.count,by omega,by rw[<-ao.out];rfl, ?_,q.out.2⟩;rw[show D.count+(cnt+l+o-D.count)=cnt+l+o by omega];exact q.out.1
end
section
variable {At:j6}(api:j8 At)(nap:kZ)(cap:v8){w0 w:World}{gd gl gx gs r seed:Nat}{S S':IxS}{L L':jq}{chs chs':List (List Tw)}{D D':jL}{E:List Nat}
structure FG(S S':IxS)(chs chs':List (List Tw))(D D':jL)(s:Tw)(f:Int)(l:List jd):Prop where
 all:jn (jR 0 chs')=jn (jR 0 chs)++cm s f l
 len:(jR 0 chs').length=(jR 0 chs).length+1
 m:S'.m=S.m
 T:S'.T=S.T
 cap:D'.cap=D.cap
 count:D'.count=D.count
 map:(jT D'.l j7).map jO.data=(jT D.l j7).map jO.data
 used:j4 D'.l<=j4 D.l+2024
 jB:chs'.length<=chs.length+1
def sc(chs:List (List Tw))(D:jL):Prop:=D.cap<j4 D.l+8024∨199<chs.length
def FW(At:j6)(w0:World)(gd gl gx gs r seed:Nat)(S:IxS)(L:jq)(chs:List (List Tw))(D:jL)(s:Tw)(f:Int)(l:List jd)(E:List Nat)(w:World)(e:Ending)(w':World):Prop :=
 (e=.returned (.int .i64 60)/\sc chs D/\jg At w0 gd gl gx gs r seed S L chs D E w'/\jM E w w') ∨
 (e=.returned (.int .i64 0)/\∃S' L' chs' D',jg At w0 gd gl gx gs r seed S' L' chs' D' E w'/\jM E w w'/\FG S S' chs chs' D D' s f l)
include api nap cap
theorem qYV(h:jw At w0 gd gl gx r S L chs D E w)(p:Tw)(a:p.size<=2000):Calls prog 88 #[ptr gl,p] w fun e w' =>
  (e=.returned (.tuple #[.int .i64 0,.int .i64 60])/\sc chs D/\jw At w0 gd gl gx r S L chs D E w'/\jM E w w') ∨
  ∃q D' M chs',e=.returned (.tuple #[.int .i64 (q:Nat),.int .i64 0])/\jw At w0 gd gl gx r S M chs' D' E w'/\jM E w w'/\mH D L chs p q D' M chs':=by
 by_cases b:sc chs D
 ·refine(qVx api nap cap h p a).mono ?_;rintro e w' (⟨rfl,q⟩|q)
  ·exact qX ⟨rfl,b,q⟩
  ·exact qY q
 ·unfold sc at b;exact(qVz api nap cap h p a (by omega) (by omega)).mono fun e w' q=>qY q
theorem qYY(h:jg At w0 gd gl gx gs r seed S L chs D E w)(hn:(jR 0 chs).length<=100)(s:Tw)(l:List jd){A:Option Addr}{n c:Nat}(hv:vr w (.slice A n c) l)(aH:n=l.length)(hb:∀x∈l,dU x)(f:Int)(hf:f=((ofT s (jn (jR 0 chs))).length:Nat))(K:kT s f l=0):
  Calls prog 42 #[ptr gs,.agg #[s,f,.slice A n c]] w (FW At w0 gd gl gx gs r seed S L chs D s f l E w):=by
 obtain⟨k1,k2,k3,k4,k5,k6,-⟩:=bc.1 K;have aD:∀x∈l,x.b<18446744073709551616:=fun x a=>(hb x a).b
 obtain⟨o,t,v,g⟩:=TI K aD;have ak:=(TA K).2;have a4:=h.base.size;have aF:=h.lt;have a5:=h.len.1;have aa:=(qG w.1.size w).alloc (qK _) (.cells #[s,f,.slice A n c] 92);have z:=jN.new w 92 #[s,f,.slice A n c];have af:=h.more api aa (B:=[w.1.size]) (fun x a=>by rw[qH.1 a];exact⟨qK _,z.lt⟩);have ag:=h.xg aa;have aj:=hv.below aa (qK _);obtain⟨w1,aZ⟩:∃w1,w.alloc (.cells #[s,f,.slice A n c] 92)=w1:=⟨_,rfl⟩
 rw[aZ]at z af ag aj;have C:=qJb s f (.slice A n c) l w1 ⟨by omega,WalkArith.wf_i64 (by omega),aj,by omega,hb⟩;unfold J0 ve at C;rw[qV K,K]at C;obtain⟨p,hp⟩:∃p,p=uv s f.toNat l:=⟨_,rfl⟩
 rw[<-hp]at C o t v g ak;have C:=qQ C;have aO:=qQ ak;have am:=qQ (fun W (I:jg At w0 gd gl gx gs r seed S L chs D ([w.1.size]++E) W)=>qYV api nap cap I.sx p ak);have ae:=qQ af;have au:=qQ ag;have an:=qQ z;have a0:=z.cell 0;have a1:=z.cell 1;have a2:=z.cell 2;have ar:=qQ (fun(W:World) (hc:W.cell? ⟨gs,3,none⟩=some (.int .u64 (seed:Nat)))=>KM hc h.sd s (by unfold maxLen;omega));have HP:=qQ (qU o (qU t (qU v g)));have a7:n<=8:=by omega
 have av:=qQ aH;have ay:=qQ h.vs;have aw:=qQ h.rb;have HF:=qQ hf;have a3:=qQ aF;have aL:=qQ (show L.endp=kz chs from h.sx.gl.endp);clear aa af ag aj hv z h hp hb aD K o t v g aH hf k1 k2 k3 k4 aF;go_enter func42,ntmps42;go_wp2_with fail;refine KG C.out fun w2 Y=>?_;have Z:=ae.out.below api Y;have B2:=an.out.below Y;have aK:=au.out.trans (jM.xA Y (fun x a=>ae.out.lt x (qJ _ a)));obtain⟨-,c1,-,-⟩:=Z.cells;have ac:=qQ (am.out w2 Z);have j:=qQ (qU Z (qU B2 aK));clear Z B2 aK Y am C ae au an a0 a1 a2;go_wp2_with fail;refine ac.out.mono ?_;rintro e w3 (⟨rfl,aI,V,Q⟩|⟨q,D3,M,H,rfl,V,Q,F⟩)
 ·have ai:=j.out.1.step V Q aw.out ay.out;have aN:=qQ aI;have ao:=qQ (qU (ai.1.less (fun x a=>qJ _ a):jg At w0 gd gl gx gs r seed S L chs D E w3) (j.out.2.2.trans (ai.2.less (fun x a=>qJ _ a))));clear ai V Q ac c1 aI;go_wp2;go_ret;exact qX ⟨rfl,aN.out,ao.out.1,ao.out.2⟩
 ·have J:=F.all;have aT:kz H=q+(p.size+12):=by rw[<-F.log.endp,F.endp]
  have ab:kz chs<=q:=by rw[<-aL.out];exact F.behind
  have aU:=sb F.xF;have a6:q<=819200:=by omega
  obtain⟨o,t,v,g⟩:=HP.out;have ad:=qQ (fun k (hk:k<(bgL p).length)=>qU (XG (seed:=seed) (q:=q) hk) (Dj (seed:=seed) (x:=(q,p)) o (by show q<=_;omega) _ (qN (XG hk))));rw[t,v,g,<-av.out]at ad;have aX:=j.out.1.st;have U:=qQ F;have HQ:=qQ (qU J (qU ab (show q<=kz H by omega)));have X:=qQ (qU V Q);obtain⟨hh,aE⟩:∃hh,hh=kx seed s.data.toList:=⟨_,rfl⟩
  rw[<-aE]at ar ad;have aA:=Q.xW j.out.2.1 (qF _ (qW _ qC));have az:=aA.cell 2;clear V Q ac c1 F J aT ab aU o t v g aX aE aA;go_wp2;go_loopw [33] (fun iv wr=>∃(k:Nat) (S':IxS),k<=n/\iv=.int .i64 (k:Nat)/\jw At w0 gd gl gx r S' M H D3 (gs::([w.1.size]++E)) wr/\jM (gs::([w.1.size]++E)) w3 wr/\lS seed q p k S S') (fun iv _=>n-(intOf iv).toNat)
  case atStart=>exact⟨0,S,qI _,rfl,X.out.1,jM.refl _ _,lS.zero seed q p S⟩
  case round =>
   obtain⟨k,S2,hk,rfl,hi,O,d⟩:=hrel;have R:=(X.out.2.trans O).xW j.out.1.st qC;have P:=(X.out.2.trans O).xW j.out.2.1 (qF _ (qW _ qC));by_cases aV:k<n
   ·have s1:(k:Int)<(n:Int):=(by omega);obtain⟨he,aJ,aG⟩:=ad.out k aV;have al:=qQ (Da api (hi.drew api) d he aJ aG (by omega));have EW:Hid (IntKind.i64.wrap (f+(k:Int))=f+(k:Int)):=qQ (by rw[IntKind.wrap_i64];omega);have aB:wr.drew.cell? ⟨gs,2,none⟩=some (ptr gx)/\wr.drew.cell? ⟨gs,3,none⟩=some (.int .u64 (seed:Nat))/\wr.drew.cell? ⟨w.1.size,0,none⟩=some (.string s)/\wr.drew.cell? ⟨w.1.size,1,none⟩=some (.int .i64 f):=⟨R.drew.cell 2,R.drew.cell 3,P.drew.cell 0,P.drew.cell 1⟩
    have aq:=qQ (ar.out wr.drew aB.2.1);have ax:=qQ (fun W (I:jM (gs::([w.1.size]++E)) wr.drew W)=>(show W.cell? ⟨gs,2,none⟩=some (ptr gx)/\W.cell? ⟨gs,3,none⟩=some (.int .u64 (seed:Nat))/\W.cell? ⟨w.1.size,0,none⟩=some (.string s)/\W.cell? ⟨w.1.size,1,none⟩=some (.int .i64 f) from⟨(I.xW R.drew qC).cell 2,(I.xW R.drew qC).cell 3,(I.xW P.drew (qF _ (qW _ qC))).cell 0,(I.xW P.drew (qF _ (qW _ qC))).cell 1⟩));have HK:=qQ (show jM (gs::([w.1.size]++E)) w3 wr.drew from O.drew);clear hi O d he aJ aG R P az;go_wp2_with fail
    go_region_held3 (fun W=>W.cell? ⟨gs,2,none⟩=some (ptr gx)/\W.cell? ⟨gs,3,none⟩=some (.int .u64 (seed:Nat))/\W.cell? ⟨w.1.size,0,none⟩=some (.string s)/\W.cell? ⟨w.1.size,1,none⟩=some (.int .i64 f))
     (first|(with_reducible assumption)|fail)
     (first
     | (go_at_call 61;((with_reducible refine X5 aq.out ?_)))
     | (go_at_call 89;(try rw[EW.out]);((with_reducible refine al.out.mono ?_);rintro e w9⟨rfl,S9,h9,k9,a9⟩;have aR:=ax.out w9 k9))
     | fail)
    rename_i aQ;have H9:=qQ (qU h9 (qU (HK.out.trans k9) a9));clear h9 k9 a9 aR aQ aB al aq ax HK;go_wp2;go_roundw
    case rel=>exact⟨k+1,S9,by omega,by go_num,H9.out.1,H9.out.2.1,H9.out.2.2⟩
    case measure=>simp[intOf];omega
   ·obtain rfl:k=n:=(by omega);have s1:¬(k:Int)<(k:Int):=by omega
    have hF:FW At w0 gd gl gx gs r seed S L chs D s f l E w (.returned (.int .i64 0)) wr:=by
     obtain⟨o,t,v,g⟩:=HP.out;obtain⟨J,ab,aS⟩:=HQ.out;have aP:(yV seed (q,p)).take k=yV seed (q,p):=qm (by rw[Dt,g,<-av.out];exact qK _);have ah:=d.mem;rw[aP]at ah
     have aW:uo seed S2 H:=aw.out.append o J ab aS (fun y=>by
      unfold uU;rw[ah,d.T];constructor
      ·rintro ((q|q)|q)
       ·exact qX (qX q)
       ·exact qY q
       ·exact qX (qY q)
      ·rintro ((q|q)|q)
       ·exact qX (qX q)
       ·exact qY q
       ·exact qX (qY q)) d.T d.m (fun y hy=>(ah y).1 hy)
     have aC:jn (jR 0 H)=jn (jR 0 chs)++cm s f l:=by
      rw[J,Dc];unfold uN;simp only;rw[t,v,g]
     have aY:uE (jn (jR 0 H)):=by
      rw[aC,HF.out];exact ay.out.snoc s l
     have hS:=j.out.1.step hi (X.out.2.trans O) aW aY;refine qY ⟨rfl,S2,M,H,D3,hS.1.less (fun x a=>qJ _ a),j.out.2.2.trans (hS.2.less (fun x a=>qJ _ a)),aC,by rw[J];simp,d.m,d.T,U.out.cap,U.out.count,U.out.others j7 D8,by have:=U.out.used;have:=aO.out;omega,U.out.jB⟩
    have aM:=qQ hF;clear hF hi O d R P az;go_wp2;go_ret;exact aM.out
end
def fQ(s:Tw)(a:Int)(l:List jd)(T:List jb):Int:=if kT s 0 l≠0 then kT s 0 l else if a < -2 then 2 else if a≠-2/\a≠bw s T then 80 else 0
section
variable {At:j6}(api:j8 At)(nap:kZ)(cap:v8){w0 w:World}{gd gl gx gs r seed:Nat}{S S':IxS}{L L':jq}{chs chs':List (List Tw)}{D D':jL}{E:List Nat}
def pM(At:j6)(w0:World)(gd gl gx gs r seed:Nat)(S:IxS)(L:jq)(chs:List (List Tw))(D:jL)(s:Tw)(a:Int)(l:List jd)(E:List Nat)(w:World)(e:Ending)(w':World):Prop :=
 ∃k,k<=70000/\((∃z,e=.returned (.tuple #[.int .i64 0,.int .i64 z])/\(z=fQ s a l (jn (jR 0 chs))/\z≠0/\z≠60∨z=60/\fQ s a l (jn (jR 0 chs))=0/\sc chs D)/\jg At w0 gd gl gx gs r seed S L chs { D with count:=D.count+k } E w'/\jM E w w') ∨
  (e=.returned (.tuple #[.int .i64 ((ofT s (jn (jR 0 chs))).length:Nat),.int .i64 0])/\fQ s a l (jn (jR 0 chs))=0/\kT s ((ofT s (jn (jR 0 chs))).length:Nat) l=0/\∃S' L' chs' D',jg At w0 gd gl gx gs r seed S' L' chs' D' E w'/\jM E w w'/\FG S S' chs chs' { D with count:=D.count+k } D' s ((ofT s (jn (jR 0 chs))).length:Nat) l))
include api nap cap
theorem KS(h:jg At w0 gd gl gx gs r seed S L chs D E w)(hc:D.count<=700000000)(hn:(jR 0 chs).length<=99)(s:Tw)(hs:s.size<=100000)(a:Int)(l:List jd){A:Option Addr}{n c:Nat}(hv:∀W,Below w0.1.size w0 W->jM E w W->vr W (.slice A n c) l)(aq:n=l.length)(hl:l.length<=300)(f:∀x∈l,dU x):
  Calls prog 18 #[ptr gs,s,a,.slice A n c] w (pM At w0 gd gl gx gs r seed S L chs D s a l E w):=by
 have aA:=h.base.size;have ap:=h.lt;have aj:=(qG w.1.size w).alloc (qK _) (.cells #[s,.int .i64 0,.slice A n c] 92);have z:=jN.new w 92 #[s,.int .i64 0,.slice A n c];have R:=h.more api aj (B:=[w.1.size]) (fun x d=>by rw[qH.1 d];exact⟨qK _,z.lt⟩);have ab:=h.xg aj;obtain⟨w1,aD⟩:∃w1,w.alloc (.cells #[s,.int .i64 0,.slice A n c] 92)=w1:=⟨_,rfl⟩
 rw[aD]at z R ab;have M:=qQ (show Calls prog 40 #[.agg #[s,.int .i64 0,.slice A n c]] w1 (X3 (.int .i64 (kT s 0 l)) w1) from Q0 s 0 (.slice A n c) l w1 ⟨hs,by decide,hv w1 R.base ab,hl,f⟩);have aa:=qQ (pF R.cells.1);have am:=qQ (fun W (hW:jg At w0 gd gl gx gs r seed S L chs D ([w.1.size]++E) W)=>FU api nap cap hW (by omega) (by omega) s (by unfold maxLen;omega))
 have ax:(ofT s (jn (jR 0 chs))).length<=800:=by
  have h1:=nd (jR 0 chs) h.rb.whole;have H:(ofT s (jn (jR 0 chs))).length<=(jn (jR 0 chs)).length:=List.length_filter_le _ _;omega
 have an:=qQ (fun W cnt (hW:jg At w0 gd gl gx gs r seed S L chs { D with count:=cnt } ([w.1.size]++E) W) (U:jM E w W) (Q:kT s ((ofT s (jn (jR 0 chs))).length:Nat) l=0)=>qYY api nap cap hW (by omega) s l (hv W hW.base U) aq f _ rfl Q)
 have af:Hid (kT s 0 l=0->kT s ((ofT s (jn (jR 0 chs))).length:Nat) l=0):=qQ fun q=>by
  obtain⟨k1,k2,V,k4,I,k6,k7⟩:=bc.1 q;exact bc.2 ⟨k1,k2,V,k4,by omega,by omega,k7⟩
 have Z:Hid (bw s (jn (jR 0 chs))=((ofT s (jn (jR 0 chs))).length:Nat)-1):=qQ rfl;have al:Hid (kT s 0 l=0∨kT s 0 l=2∨kT s 0 l=3):=qQ (TW s 0 l);have C:Hid (fQ s a l (jn (jR 0 chs))=if kT s 0 l≠0 then kT s 0 l else if a < -2 then 2 else if a≠-2/\a≠bw s (jn (jR 0 chs)) then 80 else 0):=qQ rfl;have m:=qQ (qU R (qU ab z));have av:=qQ ap;have k0:=z.cell 0;have k1:=z.cell 1;have k2:=z.cell 2;obtain⟨F,Q⟩:∃F,F=kT s 0 l:=⟨_,rfl⟩
 rw[<-Q]at M af al C;have aF:=qQ Q;clear aj z R ab h hv aq hl f ap Q hs hn;have az:=al.out;by_cases P:F=0
 ·subst P;go_enter func18,ntmps18;go_wp2_with fail;refine X5 aa.out ?_;go_wp2_with fail;refine KG M.out fun w2 t=>?_;have H:=m.out.1.below api t;have X:=m.out.2.1.trans (jM.xA t (fun x d=>m.out.1.lt x (qJ _ d)));have B2:=m.out.2.2.below t;have K:=qQ (qU H (qU X B2));clear H X B2 t M aa k0 k1 k2 m;by_cases ha:a < -2
  ·have t1:decide (a < -2)=true:=qB ha;have hF:pM At w0 gd gl gx gs r seed S L chs D s a l E w (.returned (.tuple #[.int .i64 0,.int .i64 2])) w2:=⟨0,by omega,qX ⟨2,rfl,qX ⟨by rw[C.out,qZ (by simp),qV ha],by decide,by decide⟩,K.out.1.less (fun x d=>qJ _ d),K.out.2.1⟩⟩
   have j:=qQ hF;clear hF;go_wp2;go_ret2;exact j.out
  ·have t1:decide (a < -2)=false:=qA ha;have ag:=qQ (am.out w2 K.out.1);obtain⟨lt,ao⟩:∃lt,lt=bw s (jn (jR 0 chs)):=⟨_,rfl⟩
   rw[<-ao]at ag C Z;clear am ao;go_wp2_with fail;refine ag.out.mono ?_;rintro e Y⟨k,U,rfl,h3,V⟩;have B3:=V.xW K.out.2.2 (qW _ qC);have au:=K.out.2.1.trans (V.less (fun x d=>qJ _ d));have g:=qQ (qU h3 (qU au B3));clear h3 V B3 au ag;by_cases o:a≠-2/\a≠lt
   ·have u1:(a != -2)=true:=(by simp;exact o.1);have u2:(a != lt)=true:=(by simp;exact o.2);have u3:(a==-2)=false:=qg.2 o.1;have u4:(a==lt)=false:=qg.2 o.2;have hF:pM At w0 gd gl gx gs r seed S L chs D s a l E w (.returned (.tuple #[.int .i64 0,.int .i64 80])) Y:=⟨k,U,qX ⟨80,rfl,qX ⟨by rw[C.out,qZ (by simp),qZ (show ¬a < -2 by omega),qV o],by decide,by decide⟩,g.out.1.less (fun x d=>qJ _ d),g.out.2.1⟩⟩
    have j:=qQ hF;clear hF o;go_wp2;go_ret2;exact j.out
   ·have ak:Hid (fQ s a l (jn (jR 0 chs))=0):=qQ (by rw[C.out,qZ (by simp),qZ (show ¬a < -2 by omega),qZ o]);have ae:=qQ (af.out trivial);have ai:=an.out;obtain⟨v,ac⟩:∃v,v=(ofT s (jn (jR 0 chs))).length:=⟨_,rfl⟩
    have aw:=qQ ac;rw[<-ac]at Z ae ax;simp only[<-ac]at ai;have el:lt+1=(v:Int):=(by have:=Z.out;omega);have aG:-1<=lt/\lt<=800:=(by omega);have J:=g.out.2.2.put 1 (.int .i64 (v:Int));have ht:jP [w.1.size] Y (Y.setCell ⟨w.1.size,1,none⟩ (.int .i64 (v:Int))):=(jP.refl _ _).setCell (p:=⟨w.1.size,1,none⟩) (qX qC) _;have h4:=g.out.1.xL api (E':=[w.1.size]++E) ht (fun b f=>by rw[qH.1 f];exact⟨qW _ qC,aA⟩) (fun b f=>qX f)
    have ad:jM E w (Y.setCell ⟨w.1.size,1,none⟩ (.int .i64 (v:Int))):=g.out.2.1.trans (jM.xP ht (fun b f=>⟨g.out.1.lt b (qJ _ f),fun hm=>by
     have h1:=qH.1 hm;have H:=av.out b f;omega⟩))
    have g1:=g.out.2.2.frozen 1;have j1:=g.out.2.2.cell 1;obtain⟨w4,aE⟩:∃w4,Y.setCell ⟨w.1.size,1,none⟩ (.int .i64 (v:Int))=w4:=⟨_,rfl⟩
    rw[aE]at J h4 ad;have m0:=J.cell 0;have m1:=J.cell 1;have m2:=J.cell 2;have ah:=qQ (ai w4 _ h4 ad ae.out);have H4:=qQ (qU h4 (qU ad J));clear J h4 ad ht an ai Z C af g ac
    have aC:(a = -2/\(a != -2)=false)∨(a≠-2/\(a != -2)=true/\(a != lt)=false):=by
     by_cases y:a = -2
     ·exact qX ⟨y,by rw[y];rfl⟩
     ·refine qY ⟨y,by simp;exact y, ?_⟩
      have:a=lt:=by
       by_cases q2:a=lt
       ·exact q2
       ·exact absurd ⟨y,q2⟩ o
      rw[this];simp
    clear o;rcases aC with⟨y,u1⟩|⟨y,u1,u2⟩
    all_goals
     clear y;go_wp2_with fail;refine ah.out.mono ?_;rintro e w5 (⟨rfl,ar,O,I⟩|⟨rfl,S',L',chs',D',O,I,wr⟩)
     ·have hF:pM At w0 gd gl gx gs r seed S L chs D s a l E w (.returned (.tuple #[.int .i64 0,.int .i64 60])) w5:=⟨k,U,qX ⟨60,rfl,qY ⟨rfl,ak.out,ar⟩,O.less (fun x d=>qJ _ d),H4.out.2.1.trans (I.less (fun x d=>qJ _ d))⟩⟩
      have j:=qQ hF;clear hF O I ah ar;go_wp2;go_ret2;exact j.out
     ·have hF:pM At w0 gd gl gx gs r seed S L chs D s a l E w (.returned (.tuple #[.int .i64 (v:Int),.int .i64 0])) w5:=by
       have ay:=ae.out;have aB:=aw.out;subst aB;exact⟨k,U,qY ⟨rfl,ak.out,ay,S',L',chs',D',O.less (fun x d=>qJ _ d),H4.out.2.1.trans (I.less (fun x d=>qJ _ d)),wr⟩⟩
      have j:=qQ hF;have B5:=I.xW H4.out.2.2 (qW _ qC);have r1:=B5.cell 1;clear hF O I ah wr B5;go_wp2;go_ret2;exact j.out
 ·have t0:(F != 0)=true:=by simp;exact P
  have t1:(F==0)=false:=qg.2 P;go_enter func18,ntmps18;go_wp2_with fail;refine X5 aa.out ?_;go_wp2_with fail;refine KG M.out fun w2 t=>?_;have H:=m.out.1.below api t;have X:=m.out.2.1.trans (jM.xA t (fun x d=>m.out.1.lt x (qJ _ d)));have hF:pM At w0 gd gl gx gs r seed S L chs D s a l E w (.returned (.tuple #[.int .i64 0,.int .i64 F])) w2:=⟨0,by omega,qX ⟨F,rfl,qX ⟨by rw[C.out,qV P],P,by omega⟩,H.less (fun x d=>qJ _ d),X⟩⟩
  have j:=qQ hF;clear hF H X t M aa k0 k1 k2 m az;go_wp2;go_ret2;exact j.out
end
section
variable {At:j6}(api:j8 At)(nap:kZ)(cap:v8){w0 w:World}{gd gl gx gs r seed:Nat}{S:IxS}{L:jq}{chs:List (List Tw)}{D:jL}{E:List Nat}
def gE(s:Tw)(a b:Int):Int:=if stS s=true/\0<=a/\1<=b then 0 else 2
theorem XA(nap:kZ){gs:Nat}{w:World}(h:w.cell? ⟨gs,0,none⟩=some (ptr gs))(s:Tw)(d:s.size<=maxLen)(a b:Int):Calls prog 33 #[ptr gs,s,a,b] w (X3 (.int .i64 (gE s a b)) w):=by
 have k:=qQ (pF h);have f:=qQ (nap.stream s w d);have j:Hid (gE s a b=if stS s=true/\0<=a/\1<=b then 0 else 2):=qQ rfl;generalize gE s a b=z at*;generalize stS s=q at*;clear h d;cases q with
 | false =>
   have d:z=2:=(by rw[j.out,qZ (by simp)]);subst d;go_enter func33,ntmps33;go_wp2_with fail;refine X5 k.out ?_;go_wp2_with fail;refine f.out.mono ?_;rintro e l⟨rfl,c⟩;have g:=qQ c;clear c f;go_wp2;go_ret;exact⟨rfl,g.out⟩
 | true =>
   by_cases m:a<0
   ·have d:z=2:=(by rw[j.out,qZ (by omega)]);subst d;have p:decide (a<0)=true:=qB m;go_enter func33,ntmps33;go_wp2_with fail;refine X5 k.out ?_;go_wp2_with fail;refine f.out.mono ?_;rintro e l⟨rfl,c⟩;have g:=qQ c;clear c f;go_wp2;go_ret;exact⟨rfl,g.out⟩
   ·have p:decide (a<0)=false:=qA m;by_cases o:b<1
    ·have d:z=2:=(by rw[j.out,qZ (by omega)]);subst d;have t:decide (b<1)=true:=qB o;go_enter func33,ntmps33;go_wp2_with fail;refine X5 k.out ?_;go_wp2_with fail;refine f.out.mono ?_;rintro e l⟨rfl,c⟩;have g:=qQ c;clear c f;go_wp2;go_ret;exact⟨rfl,g.out⟩
    ·have t:decide (b<1)=false:=qA o;have d:z=0:=(by rw[j.out,qV ⟨rfl,by omega,by omega⟩]);subst d;go_enter func33,ntmps33;go_wp2_with fail;refine X5 k.out ?_;go_wp2_with fail;refine f.out.mono ?_;rintro e l⟨rfl,c⟩;have g:=qQ c;clear c f;go_wp2;go_ret;exact⟨rfl,g.out⟩
def pN(a b:Int):Int:=min a 1073741824+min b 1073741824-1
theorem qYU{l:List Rec}(hw:∀x∈l,vZ x.2=true)(s:Tw){a b:Int}(d:0<=a)(f:1<=b):kv s a (pN a b) (jn l)=kv s a (a+b-1) (jn l):=by
 unfold kv;refine List.filter_congr fun x c=>?_
 have:=XW hw x (pC.1 c).1;unfold pN;exact decide_eq_decide.2 ⟨fun k=>⟨k.1,by omega⟩,fun k=>⟨k.1,by omega⟩⟩
include nap in
theorem qYr(h:jg At w0 gd gl gx gs r seed S L chs D E w)(s:Tw)(j:s.size<=maxLen)(a b:Int)(d:gE s a b≠0):Calls prog 13 #[ptr gs,s,a,b] w (X3 (.tuple #[.slice none 0 0,.int .i64 2]) w):=by
 have c:=XA nap h.cells.1 s j a b
 have g:gE s a b=2:=by
  unfold gE at d ⊢;split at d
  ·exact absurd rfl d
  ·rename_i q;rw[qZ q]
 rw[g]at c;have c:=qQ c;clear h j d g;go_enter func13,ntmps13;go_wp2_with fail;refine c.out.mono ?_;rintro e l⟨rfl,f⟩;have k:=qQ f;clear f c;go_wp2;go_ret2;exact⟨rfl,k.out⟩
include nap in
theorem qYs(h:jg At w0 gd gl gx gs r seed S L chs D E w)(s:Tw)(j:s.size<=maxLen)(a b:Int)(d:gE s a b≠0):Calls prog 21 #[ptr gs,s,a,b] w (X3 (.tuple #[.slice none 0 0,.int .i64 2]) w):=by
 have c:=XA nap h.cells.1 s j a b
 have g:gE s a b=2:=by
  unfold gE at d ⊢;split at d
  ·exact absurd rfl d
  ·rename_i q;rw[qZ q]
 rw[g]at c;have c:=qQ c;clear h j d g;go_enter func21,ntmps21;go_wp2_with fail;refine c.out.mono ?_;rintro e l⟨rfl,f⟩;have k:=qQ f;clear f c;go_wp2;go_ret2;exact⟨rfl,k.out⟩
theorem FA{s:Tw}{a b:Int}(h:gE s a b=0):stS s=true/\0<=a/\1<=b:=by
 unfold gE at h;split at h
 ·assumption
 ·exact absurd h (by decide)
theorem lT.later{P:List jb}{m:Nat}{w1 w':World}{e:Ending}(h:lT At w0 gd gl gx gs r seed S L chs D P m E w1 e w')(j:jM E w w1)(l:w.1.size<=w1.1.size):lT At w0 gd gl gx gs r seed S L chs D P m E w e w':=by
 obtain⟨A,c,k,a,b,d,f,g⟩:=h;exact⟨A,c,k,a,b,lC d l,f,j.trans g⟩
include api nap cap
theorem FC(h:jg At w0 gd gl gx gs r seed S L chs D E w)(M:D.count<=800000000)(y:(jR 0 chs).length<=100)(s:Tw)(m:s.size<=maxLen)(a b:Int)(o:(Lit.int .i64 a).wf=true)(H:(Lit.int .i64 b).wf=true)(l:gE s a b=0):
  Calls prog 13 #[ptr gs,s,a,b] w (lT At w0 gd gl gx gs r seed S L chs D (kv s a (a+b-1) (jn (jR 0 chs))) (S.T.length+2*(yF S (kx seed s.data.toList) a (pN a b)).length) E w):=by
 have d:=XA nap h.cells.1 s m a b;rw[l]at d;obtain⟨-,J,K⟩:=FA l;have O:=bounds_i64 o;have Q:=bounds_i64 H;have z:=qYU h.rb.whole s J K;have C:kv s a (min a 1073741824+min b 1073741824-1) (jn (jR 0 chs))=kv s a (a+b-1) (jn (jR 0 chs)):=z;have g:=qQ (fun W (j:Below w.1.size w W)=>KR api nap cap (h.below api j) M y s m a (min a 1073741824+min b 1073741824-1) o (WalkArith.wf_i64 (by omega)));rw[C]at g;have t:=qQ (fun W (j:Below w.1.size w W)=>h.xg j);have d:=qQ d;unfold pN;generalize (yF S (kx seed s.data.toList) a (min a 1073741824+min b 1073741824-1)).length=R at*;generalize kv s a (a+b-1) (jn (jR 0 chs))=P at*;clear h m o H l z C y;go_enter func13,ntmps13;go_wp2_with fail;refine d.out.mono ?_;rintro e F⟨rfl,f⟩;have p:=qQ (g.out F f);have q:=qQ (qU (t.out F f) f.size);clear f d t g;go_wp2_with fail;refine p.out.mono ?_;rintro e U v;have I:=qQ (v.later q.out.1 q.out.2);obtain⟨A,c,k,-,rfl,-⟩:=v;clear p;go_wp2;go_ret2;exact I.out
theorem FD(h:jg At w0 gd gl gx gs r seed S L chs D E w)(hc:D.count<=800000000)(j:(jR 0 chs).length<=100)(s:Tw)(H:s.size<=maxLen)(a b:Int)(I:(Lit.int .i64 a).wf=true)(U:(Lit.int .i64 b).wf=true)(z:gE s a b=0):
  Calls prog 21 #[ptr gs,s,a,.int .i64 b] w (lT At w0 gd gl gx gs r seed S L chs D (kv s (a-b+1) a (jn (jR 0 chs))).reverse (S.T.length+2*(yF S (kx seed s.data.toList) (a-b+1) a).length) E w):=by
 have l:=XA nap h.cells.1 s H a b;rw[z]at l;obtain⟨-,ha,d⟩:=FA z;have ba:=bounds_i64 I;have bb:=bounds_i64 U;have ab:=h.base.size
 have aa:(kv s (a-b+1) a (jn (jR 0 chs))).length<=800:=by
  have h1:=nd (jR 0 chs) h.rb.whole;have h2:(kv s (a-b+1) a (jn (jR 0 chs))).length<=(jn (jR 0 chs)).length:=qR (List.length_filter_le _ _) (List.length_filter_le _ _);omega
 have J:=qQ (fun W (y:Below w.1.size w W)=>KR api nap cap (h.below api y) hc j s H (a-b+1) a (WalkArith.wf_i64 (by omega)) I);have M:=qQ (fun W (y:Below w.1.size w W)=>h.xg y);have X:=qQ h.lt;have l:=qQ l;generalize (yF S (kx seed s.data.toList) (a-b+1) a).length=rl at*;generalize kv s (a-b+1) a (jn (jR 0 chs))=P at*;clear h H I U z j;go_enter func21,ntmps21;go_wp2_with fail;refine l.out.mono ?_;rintro e Q⟨rfl,p⟩;have K:=qQ (J.out Q p);have o:=qQ (qU (M.out Q p) p.size);clear p l M J;go_wp2_with fail;refine K.out.mono ?_;rintro e w3⟨A,c,k,hk,rfl,f,g,m⟩;have t:=qQ (qV1 f (by omega));have q:=qQ (qU f (qU g m));obtain⟨n,j⟩:∃n,n=P.length:=⟨_,rfl⟩
 have Y:=qQ j;rw[<-j]at t q ⊢;clear f g m K j aa;go_wp2_with fail;refine t.out.mono ?_;rintro e R⟨rfl,C,F⟩;obtain⟨f,g,m⟩:=q.out;have v:=g.xL api (E':=jS (.slice A n c)++E) F (fun b d=>⟨qW _ d,by have:=(f.lt b (ja.1 d)).1;have:=o.out.2;omega⟩) (fun b d=>qX d)
 have O:jM E w R:=(o.out.1.trans m).trans (jM.xP F (fun b d=>⟨g.lt b (qJ _ d),fun hm=>by
  have h5:=(f.lt b (ja.1 hm)).1;have h6:=X.out b d;have h7:=o.out.2;omega⟩))
 have V:Hid (lT At w0 gd gl gx gs r seed S L chs D P.reverse (S.T.length+2*rl) E w (.returned (.tuple #[.slice A n c,.int .i64 0])) R):=qQ (by
  have Z:n=P.reverse.length:=by rw[List.length_reverse];exact Y.out
  rw[Z]at C v ⊢;exact⟨A,c,k,hk,rfl,lC C o.out.2,v,O⟩)
 clear C F f g m v O t q;go_wp2;go_ret2;exact V.out
theorem FE(h:jg At w0 gd gl gx gs r seed S L chs D E w)(t:D.count<=700000000)(m:(jR 0 chs).length<=100)(s:Tw)(b:s.size<=maxLen)(o:stS s=true):Calls prog 20 #[ptr gs,s] w fun e w'=>∃k,k<=70000/\e=.returned (.tuple #[.int .i64 (bw s (jn (jR 0 chs))),.int .i64 0])/\jg At w0 gd gl gx gs r seed S L chs { D with count:=D.count+k } E w'/\jM E w w':=by
 have q:=qQ (pF h.cells.1);have a:=nap.stream s w b;rw[o]at a;have a:=qQ a;have d:=qQ (fun W (l:Below w.1.size w W)=>qU (FU api nap cap (h.below api l) t m s b) (h.xg l));generalize bw s (jn (jR 0 chs))=lt at*;clear h b o m;go_enter func20,ntmps20;go_wp2_with fail;refine X5 q.out ?_;go_wp2_with fail;refine a.out.mono ?_;rintro e y⟨rfl,g⟩;have f:=qQ (d.out y g);clear g a d;go_wp2_with fail;refine f.out.1.mono ?_;rintro e z⟨k,v,rfl,j,p⟩;have c:=qQ (qU j (f.out.2.trans p));clear j p;go_wp2;go_ret2;exact⟨k,v,rfl,c.out.1,c.out.2⟩
end
end
section
open Go.RowKit Go.Shelf
attribute [local go_sem] dK
def exA: jd:=⟨⟨#[97]⟩,⟨#[]⟩,0⟩
def exB: jd:=⟨⟨#[98]⟩,⟨#[]⟩,0⟩
def yY: Tw:=⟨#[115]⟩
def ni: List jb:=[⟨yY,0,exA⟩,⟨yY,1,exB⟩]
def fu: List jb:=[⟨yY,0,exA⟩,⟨yY,1,exB⟩,⟨yY,2,exA⟩]
theorem KT: dU exA:=⟨by decide,by decide,by decide⟩
theorem qYG: dU exB:=⟨by decide,by decide,by decide⟩
def yX(At:j6)(w0:World)(gd gl gx gs:Nat)(T:List jb)(n u cn:Nat)(E:List Nat)(w:World):Prop :=
 ∃S L chs D,jg At w0 gd gl gx gs 0 0 S L chs D E w/\jn (jR 0 chs)=T/\(jR 0 chs).length<=n/\D.cap=26000/\j4 D.l<=u/\chs.length<=n/\D.count<=cn
section
variable {At:j6}(api:j8 At)(nap:kZ)(cap:v8)(rapi:nh At){w0 w w':World}{gd gl gx gs n u cn:Nat}{T:List jb}{E B:List Nat}
theorem yX.more(api:j8 At)(h:yX At w0 gd gl gx gs T n u cn E w)(f:Below w.1.size w w')(d:∀b∈B,w.1.size<=b/\b<w'.1.size):yX At w0 gd gl gx gs T n u cn (B++E) w':=by
 obtain⟨S,L,chs,D,a,c⟩:=h;exact⟨S,L,chs,D,a.more api f d,c⟩
theorem yX.base(h:yX At w0 gd gl gx gs T n u cn E w):Below w0.1.size w0 w:=by
 obtain⟨S,L,chs,D,a,b⟩:=h;exact a.base
include api nap cap
theorem FF(h:yX At w0 gd gl gx gs T n u cn E w)(R:n<=90)(U:u<=10000)(Q:cn<=1000000)(s:Tw)(y:s.size<=100000)(a:Int)(l:List jd){A:Option Addr}{m c:Nat}(C:∀W,jM E w W->vr W (.slice A m c) l)(t:m=l.length)(p:l.length<=300)(o:∀x∈l,dU x)(v:fQ s a l T=0):
  Calls prog 18 #[ptr gs,s,a,.slice A m c] w fun e w'=>e=.returned (.tuple #[.int .i64 ((ofT s T).length:Nat),.int .i64 0])/\yX At w0 gd gl gx gs (T++cm s ((ofT s T).length:Nat) l) (n+1) (u+2024) (cn+70000) E w'/\jM E w w':=by
 obtain⟨S,L,chs,D,g,rfl,K,j,M,O,P⟩:=h;refine(KS api nap cap g (by omega) (by omega) s y a l (fun W _ b=>C W b) t p o).mono ?_;rintro e w'⟨k,b,(⟨z,-,F,-⟩|⟨rfl,-,-,S',L',chs',D',d,f,wr⟩)⟩
 ·exfalso;rcases F with⟨H,I,-⟩|⟨-,-,J⟩
  ·exact I (H.trans v)
  ·rcases J with q|q
   ·omega
   ·omega
 ·exact⟨rfl,⟨S',L',chs',D',d,wr.all,by rw[wr.len];omega,wr.cap.trans j,by have:=wr.used;simp only at this;omega,by have:=wr.jB;omega,by have:=wr.count;simp only at this;omega⟩,f⟩
theorem qYW(h:yX At w0 gd gl gx gs T n u cn E w)(Q:n<=90)(P:cn<=1000000)(s:Tw)(H:s.size<=100000)(a:Int)(l:List jd){A:Option Addr}{m c:Nat}(I:∀W,jM E w W->vr W (.slice A m c) l)(F:m=l.length)(C:l.length<=300)(y:∀x∈l,dU x)(d:fQ s a l T≠0):
  Calls prog 18 #[ptr gs,s,a,.slice A m c] w fun e w'=>e=.returned (.tuple #[.int .i64 0,.int .i64 (fQ s a l T)])/\yX At w0 gd gl gx gs T n u (cn+70000) E w'/\jM E w w':=by
 obtain⟨S,L,chs,D,j,rfl,o,p,t,v,O⟩:=h;refine(KS api nap cap j (by omega) (by omega) s H a l (fun W _ b=>I W b) F C y).mono ?_;rintro e w'⟨k,b,(⟨z,rfl,J,f,g⟩|⟨-,q,-⟩)⟩
 ·rcases J with⟨K,-,-⟩|⟨-,M,-⟩
  ·rw[K];exact⟨rfl,⟨S,L,chs,_,f,rfl,o,p,t,v,by show D.count+k<=_;omega⟩,g⟩
  ·exact absurd M d
 ·exact absurd q d
theorem qYA(h:yX At w0 gd gl gx gs T n u cn E w)(t:n<=90)(p:cn<=1000000)(s:Tw)(m:s.size<=maxLen)(l:stS s=true):
  Calls prog 20 #[ptr gs,s] w fun e w'=>e=.returned (.tuple #[.int .i64 (bw s T),.int .i64 0])/\yX At w0 gd gl gx gs T n u (cn+70000) E w'/\jM E w w':=by
 obtain⟨S,L,chs,D,c,rfl,d,f,g,j,o⟩:=h;refine(FE api nap cap c (by omega) (by omega) s m l).mono ?_;rintro e w'⟨k,q,rfl,a,b⟩;exact⟨rfl,⟨S,L,chs,_,a,rfl,d,f,g,j,by show D.count+k<=_;omega⟩,b⟩
theorem qYB(h:yX At w0 gd gl gx gs T n u cn E w)(Q:n<=90)(M:cn<=1000000)(s:Tw)(y:s.size<=maxLen)(a b:Int)(C:(Lit.int .i64 a).wf=true)(F:(Lit.int .i64 b).wf=true)(v:gE s a b=0){P:List jb}(q:kv s a (a+b-1) T=P):
  Calls prog 13 #[ptr gs,s,.int .i64 a,.int .i64 b] w fun e w'=>∃A c,e=.returned (.tuple #[.slice A P.length c,.int .i64 0])/\kI w' w.1.size (.slice A P.length c) P/\yX At w0 gd gl gx gs T n u (cn+2000) (jS (.slice A P.length c)++E) w'/\jM E w w':=by
 obtain⟨S,L,chs,D,d,rfl,l,m,o,p,J⟩:=h;subst q;have K:=d.sx.ok.xS
 have t:∀a b,(yF S (kx 0 s.data.toList) a b).length<=800:=fun a b=>by
  have H:=mz 0 (jR 0 chs) d.rb.whole;have I:(yF S (kx 0 s.data.toList) a b).length<=(yI 0 (jR 0 chs)).length:=lO (pI d.sx.ok _ a b) (fun x z=>(d.rb.has x).1 ((nr d.sx.ok _ a b x).1 z).1);omega
 refine(FC api nap cap d (by omega) (by omega) s y a b C F v).mono ?_;rintro e w'⟨A,c,k,O,rfl,f,g,j⟩;exact⟨A,c,rfl,f,⟨S,L,chs,_,g,rfl,l,m,o,p,by have:=t a (pN a b);show D.count+k<=_;omega⟩,j⟩
theorem qYC(h:yX At w0 gd gl gx gs T n u cn E w)(Q:n<=90)(M:cn<=1000000)(s:Tw)(y:s.size<=maxLen)(a b:Int)(C:(Lit.int .i64 a).wf=true)(F:(Lit.int .i64 b).wf=true)(v:gE s a b=0){P:List jb}(q:(kv s (a-b+1) a T).reverse=P):
  Calls prog 21 #[ptr gs,s,.int .i64 a,.int .i64 b] w fun e w'=>∃A c,e=.returned (.tuple #[.slice A P.length c,.int .i64 0])/\kI w' w.1.size (.slice A P.length c) P/\yX At w0 gd gl gx gs T n u (cn+2000) (jS (.slice A P.length c)++E) w'/\jM E w w':=by
 obtain⟨S,L,chs,D,d,rfl,l,m,o,p,J⟩:=h;subst q;have K:=d.sx.ok.xS
 have t:∀a b,(yF S (kx 0 s.data.toList) a b).length<=800:=fun a b=>by
  have H:=mz 0 (jR 0 chs) d.rb.whole;have I:(yF S (kx 0 s.data.toList) a b).length<=(yI 0 (jR 0 chs)).length:=lO (pI d.sx.ok _ a b) (fun x z=>(d.rb.has x).1 ((nr d.sx.ok _ a b x).1 z).1);omega
 refine(FD api nap cap d (by omega) (by omega) s y a b C F v).mono ?_;rintro e w'⟨A,c,k,O,rfl,f,g,j⟩;exact⟨A,c,rfl,f,⟨S,L,chs,_,g,rfl,l,m,o,p,by have:=t (a-b+1) a;show D.count+k<=_;omega⟩,j⟩
end
theorem qYD: fQ yY (-1) [exA,exB] []=0:=by decide +kernel
theorem FH: fQ yY (-1) [exA] ni=80:=by decide +kernel
theorem qYE: fQ yY 1 [exA] ni=0:=by decide +kernel
theorem qYF: (ofT yY []).length=0/\(ofT yY ni).length=2:=⟨rfl,by decide +kernel⟩
theorem FI: bw yY fu=2/\stS yY=true:=by decide +kernel
theorem qYH: kv yY 1 (1+9-1) fu=[⟨yY,1,exB⟩,⟨yY,2,exA⟩]:=rfl
theorem qYI: (kv yY (1-9+1) 1 fu).reverse=[⟨yY,1,exB⟩,⟨yY,0,exA⟩]:=rfl
theorem FL: gE yY 1 9=0:=by decide +kernel
theorem qYL(w:World){W:World}(b:jM [w.1.size] (w.alloc (.cells #[.string ⟨#[97]⟩,.string ⟨#[]⟩,.float .f64 0,.string ⟨#[98]⟩,.string ⟨#[]⟩,.float .f64 0] 64)) W):
  vr W (.slice (some ⟨w.1.size,0,none⟩) 2 2) [exA,exB]/\vr W (.slice (some ⟨w.1.size,0,none⟩) 1 2) [exA]:=by
 have B:=b.xW (jN.new w 64 #[.string ⟨#[97]⟩,.string ⟨#[]⟩,.float .f64 0,.string ⟨#[98]⟩,.string ⟨#[]⟩,.float .f64 0]) qC;refine⟨qY ⟨by decide,w.1.size,0,2,rfl,by decide,B.lt,fun i x a=>?_⟩,qY ⟨by decide,w.1.size,0,2,rfl,by decide,B.lt,fun i x a=>?_⟩⟩
 ·match i,a with
  | 0,a=>obtain rfl:=qb a;exact⟨B.cell 0,B.cell 1,B.cell 2⟩
  | 1,a=>obtain rfl:=qb a;exact⟨B.cell 3,B.cell 4,B.cell 5⟩
 ·match i,a with
  | 0,a=>obtain rfl:=qb a;exact⟨B.cell 0,B.cell 1,B.cell 2⟩
end
section
open Go.RowKit Go.Shelf
attribute [local go_sem] dK
section
variable {At:j6}(api:j8 At)(nap:kZ)(cap:v8)(rapi:nh At)
include api nap cap rapi
theorem qYM(w:World):Calls prog 7 #[] w (X3 (.bool true) w):=by
 have ag:=qQ (show Calls prog 8 #[.agg #[.int .u64 0,.float .f64 0,.int .u16 5000]] w fun e w'=>∃a gd gs gl gx,Below w.1.size w a/\e=.returned (.tuple #[ptr gd,ptr gs,.bool true])/\yX At a gd gl gx gs [] 0 0 600 [] w' from(FZ api nap cap rapi ⟨0,0,5000⟩ ⟨by decide,by decide,by decide⟩ w).mono (by
  rintro e w'⟨a,gd,gs,gl,gx,S,L,D,s,rfl,h2,y,z,t,v,C⟩;exact⟨a,gd,gs,gl,gx,s,rfl,S,L,[],D,h2,rfl,qI _,t,by omega,qI _,v⟩))
 have P:=qQ (fun a gd gl gx gs g W (h:yX At a gd gl gx gs [] 0 0 600 [g] W) (l:∀d,jM [g] W d->vr d (.slice (some ⟨g,0,none⟩) 2 2) [exA,exB])=>(show Calls prog 18 #[ptr gs,.string ⟨#[115]⟩,.int .i64 (-1),.slice (some ⟨g,0,none⟩) 2 2] W fun e w'=>e=.returned (.tuple #[.int .i64 0,.int .i64 0])/\yX At a gd gl gx gs ni 1 2024 70600 [g] w'/\jM [g] W w' from
  FF api nap cap h (by decide) (by decide) (by decide) yY (by decide) (-1) [exA,exB] l rfl (by decide) (fun x j=>by
   rcases qM.1 j with rfl|j
   ·exact KT
   ·rw[qH.1 j];exact qYG) qYD))
 have Q:=qQ (fun a gd gl gx gs g W (h:yX At a gd gl gx gs ni 1 2024 70600 [g] W) (l:∀d,jM [g] W d->vr d (.slice (some ⟨g,0,none⟩) 1 2) [exA])=>(show Calls prog 18 #[ptr gs,.string ⟨#[115]⟩,.int .i64 (-1),.slice (some ⟨g,0,none⟩) 1 2] W fun e w'=>e=.returned (.tuple #[.int .i64 0,.int .i64 80])/\yX At a gd gl gx gs ni 1 2024 140600 [g] w'/\jM [g] W w' from by
  have:=qYW api nap cap h (by decide) (by decide) yY (by decide) (-1) [exA] l rfl (by decide) (fun x j=>by rw[qH.1 j];exact KT) (by rw[FH];decide);rw[FH]at this;exact this))
 have R:=qQ (fun a gd gl gx gs g W (h:yX At a gd gl gx gs ni 1 2024 140600 [g] W) (l:∀d,jM [g] W d->vr d (.slice (some ⟨g,0,none⟩) 1 2) [exA])=>(show Calls prog 18 #[ptr gs,.string ⟨#[115]⟩,.int .i64 1,.slice (some ⟨g,0,none⟩) 1 2] W fun e w'=>e=.returned (.tuple #[.int .i64 2,.int .i64 0])/\yX At a gd gl gx gs fu 2 4048 210600 [g] w'/\jM [g] W w' from by
  have:=FF api nap cap h (by decide) (by decide) (by decide) yY (by decide) 1 [exA] l rfl (by decide) (fun x j=>by rw[qH.1 j];exact KT) qYE;rw[qYF.2]at this;exact this))
 have ae:=qQ (fun a gd gl gx gs g W (h:yX At a gd gl gx gs fu 2 4048 210600 [g] W)=>(show Calls prog 20 #[ptr gs,.string ⟨#[115]⟩] W fun e w'=>e=.returned (.tuple #[.int .i64 2,.int .i64 0])/\yX At a gd gl gx gs fu 2 4048 280600 [g] w'/\jM [g] W w' from by
  have:=qYA api nap cap h (by decide) (by decide) yY (by unfold maxLen;decide) FI.2;rw[FI.1]at this;exact this))
 have ad:=qQ (fun a gd gl gx gs E W (h:yX At a gd gl gx gs fu 2 4048 280600 E W)=>(show Calls prog 13 #[ptr gs,.string ⟨#[115]⟩,.int .i64 1,.int .i64 9] W fun e w'=>∃A c,e=.returned (.tuple #[.slice A 2 c,.int .i64 0])/\kI w' W.1.size (.slice A 2 c) [⟨yY,1,exB⟩,⟨yY,2,exA⟩]/\yX At a gd gl gx gs fu 2 4048 282600 (jS (.slice A 2 c)++E) w'/\jM E W w' from
  qYB api nap cap h (by decide) (by decide) yY (by unfold maxLen;decide) 1 9 (by decide) (by decide) FL qYH))
 have V:=qQ (fun a gd gl gx gs E W (h:yX At a gd gl gx gs fu 2 4048 282600 E W)=>(show Calls prog 21 #[ptr gs,.string ⟨#[115]⟩,.int .i64 1,.int .i64 9] W fun e w'=>∃A c,e=.returned (.tuple #[.slice A 2 c,.int .i64 0])/\kI w' W.1.size (.slice A 2 c) [⟨yY,1,exB⟩,⟨yY,0,exA⟩]/\yX At a gd gl gx gs fu 2 4048 284600 (jS (.slice A 2 c)++E) w'/\jM E W w' from
  qYC api nap cap h (by decide) (by decide) yY (by unfold maxLen;decide) 1 9 (by decide) (by decide) FL qYI))
 have al:=qQ qYL;have af:=qQ (fun a gd gl gx gs T n u cn W d g (h:yX At a gd gl gx gs T n u cn [] W) (k:Below W.1.size W d) (hg:W.1.size<=g/\g<d.1.size)=>(show yX At a gd gl gx gs T n u cn [g] d from h.more (B:=[g]) api k (fun b k=>by rw[qH.1 k];exact hg)));go_enter func7,ntmps7;go_wp2_with fail;refine ag.out.mono ?_;rintro e w1⟨a,gd,gs,gl,gx,ai,rfl,s⟩;have F:=(qG w1.1.size w1).alloc (qK _) (.cells #[.string ⟨#[97]⟩,.string ⟨#[]⟩,.float .f64 0,.string ⟨#[98]⟩,.string ⟨#[]⟩,.float .f64 0] 64);have o:=qQ (fun W f=>al.out w1 (W:=W) f);obtain⟨K,aj⟩:∃K,w1.alloc (.cells #[.string ⟨#[97]⟩,.string ⟨#[]⟩,.float .f64 0,.string ⟨#[98]⟩,.string ⟨#[]⟩,.float .f64 0] 64)=K:=⟨_,rfl⟩
 have ap:K.1.size=w1.1.size+1:=by rw[<-aj];simp
 rw[aj]at F o;have H2:=qQ (af.out _ _ _ _ _ _ _ _ _ _ _ w1.1.size s F (by omega));have X:=qQ (P.out _ _ _ _ _ _ _ H2.out (fun d f=>(o.out d f).1));have U:=qQ ai;clear ai s F ap ag af P;go_wp2_with fail;refine X.out.mono ?_;rintro e w3⟨rfl,y,J⟩;have Y:=qQ (Q.out _ _ _ _ _ _ _ y (fun d f=>(o.out d (J.trans f)).2));have ak:=qQ J;clear y J Q X;go_wp2_with fail;refine Y.out.mono ?_;rintro e w4⟨rfl,z,k4⟩;have Z:=qQ (R.out _ _ _ _ _ _ _ z (fun d f=>(o.out d ((ak.out.trans k4).trans f)).2));clear z k4 R Y;go_wp2_with fail;refine Z.out.mono ?_;rintro e w5⟨rfl,t,-⟩;have aa:=qQ (ae.out _ _ _ _ _ _ _ t);clear t Z ae;go_wp2_with fail;refine aa.out.mono ?_;rintro e w6⟨rfl,v,-⟩;have ab:=qQ (ad.out _ _ _ _ _ _ _ v);clear v aa ad;go_wp2_with fail;refine ab.out.mono ?_;rintro e w7⟨A7,c7,rfl,m,C,-⟩;have ac:=qQ (V.out _ _ _ _ _ _ _ C);have ah:=qQ m;clear C ab V m;go_wp2_with fail;refine ac.out.mono ?_;rintro e w8⟨A8,c8,rfl,r8,h8,k8⟩;have m:=k8.x8 ah.out (fun b k=>qW _ k);obtain⟨A',aq,ao,e7,-,H⟩:=m.xH.form;obtain⟨b7,rfl,-,x0,x1,M,-⟩:=H 0 _ rfl;obtain⟨am,p,-,-,x6,-⟩:=H 1 _ rfl;obtain⟨rfl,-,-⟩:=Value.slice.inj e7;obtain rfl:b7=am:=by injection p with p;injection p
 obtain⟨A',ar,ao,e8,-,I⟩:=r8.xH.form;obtain⟨b8,rfl,-,-,y1,-⟩:=I 0 _ rfl;obtain⟨an,q,-,-,y6,O,-⟩:=I 1 _ rfl;obtain⟨rfl,-,-⟩:=Value.slice.inj e8;obtain rfl:b8=an:=by injection q with q;injection q
 have HF:=qQ (U.out.trans (h8.base.mono U.out.size));rw[Nat.zero_mul,Nat.add_zero]at x1 M y1;rw[Nat.one_mul]at x6 y6 O;unfold exB at M;unfold exA at O;simp only at x1 M x6 y1 y6 O;clear m r8 h8 k8 ac ah H I x0 e7 e8 p q;go_wp2;go_ret;exact⟨rfl,HF.out⟩
end
end
section
open Go.RowKit Go.Shelf
section
variable {At:j6}{w0 we wr w':World}{gd gl gx gs r seed cnt:Nat}{S:IxS}{L:jq}{chs:List (List Tw)}{D:jL}{E N:List Nat}{lv:Value}{G:List jb}
structure yu(At:j6)(w0:World)(gd gl gx gs r seed:Nat)(S:IxS)(L:jq)(chs:List (List Tw))(D:jL)(E:List Nat)(we:World)(G:List jb)(lv:Value)(cnt:Nat)(N:List Nat)(wr:World):Prop where
 row:kI wr we.1.size lv G
 st:jg At w0 gd gl gx gs r seed S L chs { D with count:=cnt } (N++E) wr
 kept:jM E we wr
 ol:∀b∈jS lv,b∈N
 low:∀b∈N,we.1.size<=b
theorem yu.below(api:j8 At)(h:yu At w0 gd gl gx gs r seed S L chs D E we G lv cnt N wr)(a:Below wr.1.size wr w'):yu At w0 gd gl gx gs r seed S L chs D E we G lv cnt N w' :=
 ⟨h.row.below a (qK _),h.st.below api a,h.kept.trans ((h.st.xg a).less (fun b a=>qJ _ a)),h.ol,h.low⟩
theorem yu.step{c:Nat}(h:yu At w0 gd gl gx gs r seed S L chs D E we G lv cnt N wr)(f:jg At w0 gd gl gx gs r seed S L chs { D with count:=c } (N++E) w')(d:jM (N++E) wr w'):yu At w0 gd gl gx gs r seed S L chs D E we G lv c N w' :=
 ⟨d.x8 h.row (fun b a=>qW _ (h.ol b a)),f,h.kept.trans (d.less (fun b a=>qJ _ a)),h.ol,h.low⟩
theorem yu.more(api:j8 At)(h:yu At w0 gd gl gx gs r seed S L chs D E we G lv cnt N wr)(R:w0.1.size<=we.1.size)(o:G.length<=100000)(K:∀b∈E,b<we.1.size)(x:jb)(F:TypeId):
  ∃C s w',(Builtin.append_ #[36,36] F #[lv,.slice (some ⟨wr.1.size,0,none⟩) 1 1]).run prog (wr.alloc (.cells (bL x) 66))=.ok C w'/\yu At w0 gd gl gx gs r seed S L chs D E we (G++[x]) C cnt s w'/\(∀b∈N,b∈s) /\
   (∀g t cs,jN wr g t cs->66≠t->jN w' g t cs)/\∀base e size v n xs,wr.ownsRow base e size v n xs->66≠e->w'.ownsRow base e size v n xs:=by
 have f:=(qG wr.1.size wr).alloc (qK _) (.cells (bL x) 66);have d:=h.below api f;have z:=Dl wr x;obtain⟨w1,Q⟩:∃w1,wr.alloc (.cells (bL x) 66)=w1:=⟨_,rfl⟩
 rw[Q]at d z f ⊢;have V:=f.size;have U:=h.kept.size;obtain⟨A,c,w',H,k,I,J⟩:=KI d.row z (by rw[List.length_singleton];omega) (by omega) F;have o:∀b∈jS lv,we.1.size<=b/\b<w1.1.size:=fun b a=>d.row.own b a
 have m:jP (jS lv) w1 w':=(jP.refl _ _).grown I (fun j M=>qX (ja.2 M))
 have P:∀b∈jS (.slice A (G.length+[x].length) c),b∈jS lv∨b=w1.1.size:=fun b a=>by
  have a:=ja.1 a;rcases J with q|q
  ·exact qX (ja.2 (by rw[<-q];exact a))
  ·rw[q]at a;exact qY (qb a).symm
 have hst:=d.st.xL api (E':=(jS (.slice A (G.length+[x].length) c)++N)++E) m (fun b a=>⟨qW _ (d.ol b a),by have:=(o b a).1;omega⟩) (fun b a=>by
  rcases qD.1 a with q|q
  ·rcases qD.1 q with q|q
   ·rcases P b q with j|j
    ·exact qX (qW _ (d.ol b j))
    ·exact qY ⟨by omega,(k.lt b (ja.1 q)).2⟩
   ·exact qX (qW _ q)
  ·exact qX (qJ _ q))
 have O:∀b∈E,b<w1.1.size/\b ∉ jS lv:=fun b a=>⟨d.st.lt b (qJ _ a),fun l=>by have:=(o b l).1;have:=K b a;omega⟩
 refine⟨_,jS (.slice A (G.length+[x].length) c)++N,w',H,⟨by unfold kI;rw[qL];unfold kI at k;rw[qL]at k;exact k,hst,d.kept.trans (jM.xP m O),fun b a=>qW _ a,fun b a=>?_⟩,fun b a=>qJ _ a,fun g t cs B p=>(B.below f).xC m (fun l=>vO d.row (B.below f) p (ja.1 l)),fun base e size v n xs y p=>cQ (oz y f (qK _)) m (fun b a l=>dF d.row (oz y f (qK _)) p b a (ja.1 l))⟩;rcases qD.1 a with q|q
 ·exact(k.lt b (ja.1 q)).1
 ·exact d.low b q
theorem qYN{l:List Rec}{k:Nat}{x:Rec}(h:l[k]? = some x):jn (l.take (k+1))=jn (l.take k)++uN x.2:=by
 rw[xQ,h];exact Dc _ _
theorem qYO{p:Tw}{i:Nat}{x:jd}(h:(bgL p)[i]? = some x):(uN p).take (i+1)=(uN p).take i++[⟨bgS p,bgF p+(i:Nat),x⟩]:=by
 rw[xQ];congr 1;unfold uN;rw[mS,h];rfl
variable (api:j8 At)(nap:kZ)(cap:v8){w:World}
def K7(At:j6)(w0:World)(gd gl gx gs r seed:Nat)(S:IxS)(L:jq)(chs:List (List Tw))(D:jL)(E:List Nat)(w:World)(e:Ending)(w':World):Prop :=
 ∃A c k,k<=D.count+200*((jR 0 chs).length+1)/\e=.returned (.tuple #[.slice A (jn (jR 0 chs)).length c,.int .i64 0])/\kI w' w.1.size (.slice A (jn (jR 0 chs)).length c) (jn (jR 0 chs))/\jg At w0 gd gl gx gs r seed S L chs { D with count:=k } (jS (.slice A (jn (jR 0 chs)).length c)++E) w'/\jM E w w'
include api nap cap
theorem qYP(h:jg At w0 gd gl gx gs r seed S L chs D E w)(hc:D.count<=800000000)(hn:(jR 0 chs).length<=100):
  Calls prog 19 #[ptr gs] w (K7 At w0 gd gl gx gs r seed S L chs D E w):=by
 have aU:=h.base.size;have aW:=qQ h.lt;have ao:=h.xI;have aL:=qQ (pF h.cells.1);have a3:=qQ (show(jn (jR 0 chs)).length<=800 by have:=nd (jR 0 chs) h.rb.whole;omega);obtain⟨R,v⟩:∃R,R=jR 0 chs:=⟨_,rfl⟩
 have aM:Hid (∀W cnt N,cnt<=900000000->jg At w0 gd gl gx gs r seed S L chs { D with count:=cnt } (N++E) W->∀k,k<=R.length->Calls prog 43 #[ptr gl,.int .i64 (vd R k:Nat)] W fun e w'=>∃ay,ay<=cnt+200/\e=.returned (XU R[k]?)/\jg At w0 gd gl gx gs r seed S L chs { D with count:=ay } (N++E) w'/\jM (N++E) W w'):=qQ fun W cnt N aR hW k V=>by
  have a6:vd R k<=900000:=by
   unfold vd;split
   ·omega
   ·cases a:R[k-1]? with
    | none=>show 0<=_;omega
    | some x =>
      rw[v]at a;have h1:=((lH chs 0 (fun J I=>(h.sx.xF.small J I).1)).2 x (qN a)).2;have:=h.sx.xF.many;show vV x<=_;omega
  refine(KL api nap cap hW.sx aR (vd R k) (by omega)).mono ?_;rintro e w'⟨c2,al,rfl,hi,aT⟩;obtain⟨g1,g2⟩:=hW.step hi aT hW.rb hW.vs;refine⟨c2,al, ?_,g1,g2⟩;rw[<-v];have l:=Bg (by rw[v];exact ao:bC R) V
  have hq:R.find? (fun x=>decide ((vd R k:Int)<=(x.1:Int)))=R.find? (fun x=>decide (vd R k<=x.1)):=by
   congr 1;funext x;exact decide_eq_decide.2 (by omega)
  rw[<-hq,l]
 have aw:Hid (∀k x,R[k]? = some x->vZ x.2=true/\x.2.size<=2000/\(bgL x.2).length<=8/\0<=bgF x.2/\bgF x.2<=1073741824/\x.1+(x.2.size+12)=vd R (k+1)/\vd R k<vd R (k+1)/\vd R (k+1)<=900000/\x.1<=900000):=qQ fun k x a=>by
  have o:=qN a;rw[v]at o;have hw:=h.rb.whole x o;obtain⟨-,-,-,-,-,d⟩:=dY hw;obtain⟨-,-,-,b4,b5,b6,-⟩:=bc.1 d;have h1:=((lH chs 0 (fun J I=>(h.sx.xF.small J I).1)).2 x o).2;have F:=h.sx.xF.many
  have h3:vd R k<=x.1:=by
   have V:=(qO.1 a).1;have l:=Bg (by rw[v];exact ao:bC R) (Nat.le_of_lt V);rw[a]at l;have hd:=List.find?_some l;simp only[decide_eq_true_eq]at hd;omega
  have h4:vd R (k+1)=vV x:=By a;have h5:vV x=x.1+(x.2.size+12):=rfl;exact⟨hw,KD h.sx.xF o,b4,b5,by omega,by omega,by omega,by omega,by omega⟩
 have aP:=qQ h;have HR:=qQ v;have a4:R.length<=100:=by rw[v];exact hn
 clear h ao v hn
 skip
 go_enter func19,ntmps19;go_wp2_with fail;refine X5 aL.out ?_;have h0:vd R 0=0:=rfl;go_wp2;go_loopw [4,5] (fun lv pv wr=>∃(k cnt:Nat) (N:List Nat) (g:Option Addr) (z c1:Nat),k<=R.length/\lv=.slice g z c1/\pv=.int .i64 (vd R k:Nat)/\cnt<=D.count+200*k/\yu At w0 gd gl gx gs r seed S L chs D E w (jn (R.take k)) (.slice g z c1) cnt N wr) (fun _ pv _=>1000000-(intOf pv).toNat)
 case atStart=>exact⟨0,D.count,[],none,0,0,qI _,rfl,rfl,qK _,⟨kI.nil _ _,aP.out,jM.refl _ _,fun b d=>(by cases ja.1 d),fun b d=>by cases d⟩⟩
 case round =>
  obtain⟨k,cnt,N,g,z,c1,V,rfl,rfl,a5,U⟩:=hrel;obtain⟨-,ax,-,-⟩:=U.st.cells;have c:=qQ (aM.out wr cnt N (by omega) U.st k V);have M:=qQ U;cases a:R[k]? with
  | none =>
    have am:k=R.length:=by
     have:=List.getElem?_eq_none_iff.1 a;omega
    rw[a]at c;unfold XU at c;simp only at c;obtain⟨J,I⟩:∃J,J=vd R k:=⟨_,rfl⟩
    rw[<-I]at c ⊢;clear a U I;go_wp2_with fail;refine c.out.mono ?_;rintro e w2⟨c2,al,rfl,F,Y⟩;have t:=M.out.step F Y;rw[am,List.take_length]at t
    have HF:Hid (K7 At w0 gd gl gx gs r seed S L chs D E w (.returned (.tuple #[.slice g z c1,.int .i64 0])) w2):=qQ (by
     obtain⟨A9,c9,P,-,-,-⟩:=vl t.row;obtain⟨rfl,rfl,rfl⟩:=Value.slice.inj P;have aX:=t.row;have hst:=t.st.less (E':=jS (.slice g (jn R).length c1)++E) (fun b d=>(qD.1 d).elim (fun q=>qW _ (t.ol b q)) (fun q=>qJ _ q));have aS:=t.kept;have aQ:=HR.out;clear t M P;unfold K7;rw[<-aQ];exact⟨g,c1,c2,by omega,rfl,aX,hst,aS⟩)
    clear t F Y M c ax;go_wp2;go_ret2;exact HF.out
  | some x =>
    obtain⟨r1,r2,r3,r4,r5,r6,r7,r8,r9⟩:=aw.out k x a;rw[a]at c;unfold XU at c;simp only at c;rw[r6]at c;have HX:=qQ a;obtain⟨q,p⟩:=x;simp only at c r1 r2 r3 r4 r5 r9;obtain⟨p0,ac⟩:∃p0,p0=vd R k:=⟨_,rfl⟩
    obtain⟨p1,X⟩:∃p1,p1=vd R (k+1):=⟨_,rfl⟩
    have aN:=qQ X;rw[<-ac,<-X]at r7;rw[<-X]at r8;rw[<-X,<-ac]at c;rw[<-ac];have ae:=qQ (fun W=>FJ p W r1 (by omega));unfold ve at ae;obtain⟨f,l⟩:∃f,f=bgF p:=⟨_,rfl⟩
    obtain⟨s,hs⟩:∃s,s=bgS p:=⟨_,rfl⟩
    obtain⟨m,o⟩:∃m,m=(bgL p).length:=⟨_,rfl⟩
    rw[<-l,<-hs,<-o]at ae;have O:=qQ (qU l (qU hs o));rw[<-l]at r4 r5;rw[<-o]at r3;clear a U ac X r6 r1 r2 l hs o;go_wp2_with fail;refine c.out.mono ?_;rintro e w2⟨c2,al,rfl,F,Y⟩;have ar:=qQ (M.out.step F Y);clear F Y M c ax;go_wp2_with fail;refine(ae.out w2).mono ?_;rintro e w3⟨A,C,rfl,aF,aj⟩;have aC:=aj.alloc aj.size (.cells #[.string s,.int .i64 f,.slice A m C] 92);have Z:=jN.new w3 92 #[.string s,.int .i64 f,.slice A m C];have an:=aF.alloc (.cells #[.string s,.int .i64 f,.slice A m C] 92);have ah:=ar.out.below api aC;obtain⟨w4,aY⟩:∃w4,w3.alloc (.cells #[.string s,.int .i64 f,.slice A m C] 92)=w4:=⟨_,rfl⟩
    rw[aY]at Z an ah;have aK:=Z.cell 2;have af:=qQ (qU ah (qU Z an));obtain⟨wo,aZ⟩:∃wo:World,wo=wr:=⟨_,rfl⟩
    clear aj aC Z aF an ah ar;subst aZ;go_wp2;go_loopw [4,42] (fun lv iv wi=>∃(i:Nat) (N:List Nat) (g:Option Addr) (z c1:Nat),i<=m/\lv=.slice g z c1/\iv=.int .i64 (i:Nat)/\yu At w0 gd gl gx gs r seed S L chs D E w (jn (R.take k)++(uN p).take i) (.slice g z c1) c2 N wi/\jN wi w3.1.size 92 #[.string s,.int .i64 f,.slice A m C]/\wi.ownsRow w2.1.size 64 3 (.slice A m C) (bgL p).length ((bgL p).flatMap cT)) (fun _ iv _=>m-(intOf iv).toNat)
    case atStart=>exact⟨0,N,g,z,c1,qI _,rfl,rfl,by rw[List.take_zero,List.append_nil];exact af.out.1,af.out.2.1,af.out.2.2⟩
    case round =>
     obtain⟨i,N2,A2,n2,c4,hi,rfl,rfl,aa,H,ad⟩:=hrel;by_cases aV:i<m
     ·have s1:(i:Int)<(m:Int):=(by omega);obtain⟨x,aq⟩:∃x,(bgL p)[i]? = some x:=⟨_,qE (by rw[<-O.out.2.2];exact aV)⟩
      have ag:=qQ (KO s f (.slice A m C) (bgL p) wr (vr.xy ad) i x aq ⟨r4,r5⟩ (by rw[<-O.out.2.2];omega));have ap:=qYO aq;rw[<-O.out.1,<-O.out.2.1]at ap
      have aD:(jn (R.take k)++(uN p).take i).length<=100000:=by
       rw[qL,qT]
       have h1:(jn (R.take k)).length<=8*(R.take k).length:=nd _ (fun y hy=>by
        obtain⟨j,hj⟩:=ql (List.mem_of_mem_take hy);exact(aw.out j y hj).1)
       rw[qT]at h1;omega
      have HM:=qQ (fun W (d:Below wr.1.size wr W)=>(aa.below api d).more api aU aD aW.out ⟨s,f+(i:Nat),x⟩ 36);have au:=qQ (fun W (d:Below wr.1.size wr W)=>qU (H.below d) (oz ad d (qK _)));have aO:=qQ ap;have a0:=H.cell 0;have a1:=H.cell 1;have a2:=H.cell 2;unfold ve at ag;clear aa H ad aq ap aD aK;go_wp2_with fail;refine KG ag.out fun wB ak=>?_;obtain⟨a7,N',w9,P,Q,-,az,aG⟩:=HM.out wB ak;obtain⟨aA,aH⟩:=au.out wB ak;have aB:=az _ _ _ aA (by decide);have aI:=aG _ _ _ _ _ _ aH (by decide);have av:=qQ P;obtain⟨A9,c9,rfl,-,-,-⟩:=vl Q.row;obtain⟨n9,aE⟩:∃n9,n9=(jn (R.take k)++(uN p).take i++([⟨s,f+(i:Nat),x⟩]:List jb)).length:=⟨_,rfl⟩
      rw[<-aE]at Q av;rw[qh,<-aO.out]at Q;have K:=qQ (qU Q (qU aB aI));clear P Q ak ag HM au az aG aA aH aB aI aE a0 a1 a2;go_wp2_with (first|(at_builtin;refine yC rfl _ _ rfl rfl rfl av.out ?_)|fail);go_wp2;go_roundw
      case rel=>exact⟨i+1,N',A9,_,c9,by omega,rfl,by go_num,K.out.1,K.out.2.1,K.out.2.2⟩
      case measure=>simp[intOf];omega
     ·obtain rfl:i=m:=(by omega);have s1:¬(i:Int)<(i:Int):=(by omega);have ab:=aa;have aJ:(uN p).take i=uN p:=qm (by rw[show(uN p).length=(bgL p).length from XZ _ _ _,<-O.out.2.2];exact qK _);rw[aJ]at ab;have ai:=qYN HX.out;simp only at ai;rw[<-ai]at ab;have K:=qQ ab;have am:k<R.length:=(qO.1 HX.out).1;clear aa H ad ab ai aJ aK;go_wp2;go_roundw
      case rel=>exact⟨k+1,c2,N2,A2,n2,c4,am,rfl,by rw[<-aN.out],by omega,K.out⟩
      case measure=>simp[intOf];omega
end
theorem bM.wrote{seed:Nat}{D D':jL}{S S':IxS}(h:bM seed D S)(a:(jT D'.l j7).map jO.data=(jT D.l j7).map jO.data)(b:S'.m=S.m)(c:S'.T=S.T)(ok:kV D' S'):bM seed D' S':=by
 rcases h with w1|⟨w1,g,j⟩
 ·exact qX ⟨by rw[a,b];exact w1.map,fun t d=>ok.has t d⟩
 ·refine qY ⟨?_,by rw[c,g],by rw[b,j]⟩;rw[w1]at a;cases q:jT D'.l j7 with
  | none=>rfl
  | some f=>rw[q]at a;cases a
theorem qYR{l:List Rec}(h:∀x∈l,vZ x.2=true):∀x∈jn l,x.e.b<18446744073709551616:=by
 intro x c;obtain⟨y,f,c⟩:=xV.1 c;obtain⟨-,-,d⟩:=TL (h y f);obtain⟨i,a⟩:=ql c;unfold uN at a;rw[mS]at a;obtain⟨z,g,rfl⟩:=xG.1 a;exact(Gj (d z (qN g))).b
def PgS(At:j6)(w1:World)(gd gs r seed i:Nat)(T:List jb)(cn:Nat)(E:List Nat)(w:World):Prop :=
 ∃gl gx S L chs D,jg At w1 gd gl gx gs r seed S L chs D E w/\bM seed D S/\jn (jR 0 chs)=T/\(jR 0 chs).length<=i/\S.m.next<=(i:Nat)/\D.count<=cn
section
variable {At:j6}(api:j8 At)(nap:kZ)(iap:gq At)(cap:v8)(rapi:nh At){w1 w w':World}{gd gs r seed i cn:Nat}{T:List jb}{E E' B:List Nat}
theorem PgS.xL(api:j8 At)(h:PgS At w1 gd gs r seed i T cn E w)(g:jP B w w')(d:∀b∈B,b∈E/\w1.1.size<=b)(f:∀b∈E',b∈E∨(w.1.size<=b/\b<w'.1.size)):PgS At w1 gd gs r seed i T cn E' w':=by
 obtain⟨gl,gx,S,L,chs,D,a,c⟩:=h;exact⟨gl,gx,S,L,chs,D,a.xL api g d f,c⟩
theorem PgS.below(api:j8 At)(h:PgS At w1 gd gs r seed i T cn E w)(c:Below w.1.size w w'):PgS At w1 gd gs r seed i T cn E w':=by
 obtain⟨gl,gx,S,L,chs,D,a,b⟩:=h;exact⟨gl,gx,S,L,chs,D,a.below api c,b⟩
theorem PgS.base(h:PgS At w1 gd gs r seed i T cn E w):Below w1.1.size w1 w:=by
 obtain⟨gl,gx,S,L,chs,D,a,b⟩:=h;exact a.base
theorem PgS.up(h:PgS At w1 gd gs r seed i T cn E w){j c:Nat}(hi:i<=j)(l:cn<=c):PgS At w1 gd gs r seed j T c E w:=by
 obtain⟨gl,gx,S,L,chs,D,a,b,d,f,g,k⟩:=h;exact⟨gl,gx,S,L,chs,D,a,b,d,by omega,by omega,by omega⟩
theorem PgS.less(h:PgS At w1 gd gs r seed i T cn (B++E) w):PgS At w1 gd gs r seed i T cn E w:=by
 obtain⟨gl,gx,S,L,chs,D,a,c⟩:=h;exact⟨gl,gx,S,L,chs,D,a.less (fun b d=>qJ _ d),c⟩
theorem qYS{x:cq}(h:df x=false)(f:∀y∈x.l,re y):x.s.size<=300/\x.l.length<=20/\∀y∈x.l,dU y:=by
 unfold df at h;simp only[Bool.or_eq_false_iff,decide_eq_false_iff_not]at h;obtain⟨⟨g,j⟩,d⟩:=h;refine⟨by omega,by omega,fun y c=>?_⟩;have a:=List.any_eq_false.1 d y c;unfold dA at a;simp only[Bool.or_eq_true,decide_eq_true_eq,not_or]at a;exact⟨by omega,by omega,(f y c).b⟩
def qYT(At:j6)(w1:World)(gd gs r seed i:Nat)(T:List jb)(cn:Nat)(s:Tw)(l:List jd)(E:List Nat)(w:World)(e:Ending)(w':World):Prop :=
 ((∃z:Int,z≠0/\e=.returned (.tuple #[.int .i64 0,z]))/\PgS At w1 gd gs r seed (i+1) T (cn+70000) E w'/\jM E w w') ∨
 (e=.returned (.tuple #[.int .i64 ((ofT s T).length:Nat),.int .i64 0])/\kT s ((ofT s T).length:Nat) l=0/\PgS At w1 gd gs r seed (i+1) (T++cm s ((ofT s T).length:Nat) l) (cn+70000) E w'/\jM E w w')
include api nap cap in
theorem qY0(h:PgS At w1 gd gs r seed i T cn E w)(hi:i<=90)(J:cn<=600000000)(s:Tw)(v:s.size<=100000)(a:Int)(l:List jd){A:Option Addr}{m c:Nat}(y:∀W,Below w1.1.size w1 W->vr W (.slice A m c) l)(t:m=l.length)(p:l.length<=300)(o:∀x∈l,dU x):
  Calls prog 18 #[ptr gs,s,a,.slice A m c] w (qYT At w1 gd gs r seed i T cn s l E w):=by
 obtain⟨gl,gx,S,L,chs,D,g,f,rfl,F,H,I⟩:=h;refine(KS api nap cap g (by omega) (by omega) s v a l (fun W j _=>y W j) t p o).mono ?_;rintro e w'⟨k,K,(⟨z,rfl,C,b,d⟩|⟨rfl,-,q,S',L',chs',D',b,d,wr⟩)⟩
 ·refine qX ⟨⟨z, ?_,rfl⟩,⟨gl,gx,S,L,chs,_,b,f.same (dE.refl D) ?_,rfl,by omega,by omega,by show D.count+k<=_;omega⟩,d⟩
  ·rcases C with⟨-,q,-⟩|⟨q,-⟩
   ·exact q
   ·omega
  ·exact b.sx.ok
 ·refine qY ⟨rfl,q,⟨gl,gx,S',L',chs',D',b,f.wrote wr.map wr.m wr.T b.sx.ok,wr.all,by rw[wr.len];omega,by rw[wr.m];omega, ?_⟩,d⟩;have:=wr.count;simp only at this;omega
def FM(At:j6)(w1:World)(gd gs r seed i:Nat)(T:List jb)(cn:Nat)(E:List Nat)(w:World)(e:Ending)(w':World):Prop :=
 (∃z:Int,e=.returned (.int .i64 z))/\PgS At w1 gd gs r seed (i+1) T (cn+70000) E w'/\jM E w w'
include api nap iap in
theorem qY1(h:PgS At w1 gd gs r seed i T cn E w)(hi:i<=90)(p:cn<=600000000)(g:r<18446744073709551616):Calls prog 15 #[ptr gs] w (FM At w1 gd gs r seed i T cn E w):=by
 obtain⟨gl,gx,S,L,chs,D,d,f,rfl,l,m,o⟩:=h;refine(qVs api nap iap d f (by omega) (by omega) (by omega) g).mono ?_;rintro e w'⟨z,S',L',D',-,rfl,a,b,c,j,k,-⟩;exact⟨⟨z,rfl⟩,⟨gl,gx,S',L',chs,D',a,c,rfl,by omega,by omega,by omega⟩,b⟩
include api nap iap in
theorem qY2(h:PgS At w1 gd gs r seed i T cn E w)(hi:i<=90)(p:cn<=600000000)(g:r<18446744073709551616)(lev:Int):Calls prog 16 #[ptr gs,lev] w (FM At w1 gd gs r seed i T cn E w):=by
 obtain⟨gl,gx,S,L,chs,D,d,f,rfl,l,m,o⟩:=h;refine(qVt api nap iap d f (by omega) (by omega) (by omega) g lev).mono ?_;rintro e w'⟨z,S',L',D',-,rfl,a,b,c,j,k,-⟩;exact⟨⟨z,rfl⟩,⟨gl,gx,S',L',chs,D',a,c,rfl,by omega,by omega,by omega⟩,b⟩
include api nap cap rapi in
theorem qY3(h:PgS At w1 gd gs r seed i T cn E w)(hi:i<=90)(z:cn<=600000000)(l:seed<18446744073709551616)(k:r<18446744073709551616):Calls prog 17 #[ptr gd,.int .u64 (seed:Nat),.float .f64 r] w fun e w'=>∃a,e=.returned (.tuple #[ptr a,.int .i64 0])/\PgS At w1 gd a r seed (i+1) T (cn+70000) E w'/\jM E w w':=by
 obtain⟨gl,gx,S,L,chs,D,d,f,rfl,t,v,y⟩:=h;obtain⟨g,j⟩:=d.xE f (by omega);refine(FQ api nap cap rapi g j l k (by omega) (by omega)).mono ?_;rintro e w'⟨a,b,c,S',L',D',rfl,m,o,p,s,-,A,-⟩;exact⟨a,rfl,⟨b,c,S',L',chs,D',m,p,rfl,by omega,by rcases s with q|q<;>omega,by omega⟩,o⟩
end
theorem jM.x7{E:List Nat}{w w':World}{base:Nat}{v:Value}{l:List Tw}(h:jM E w w')(a:vf w base v l)(j:∀b∈jS v,b∈E):vf w' base v l:=by
 refine⟨a.1, ?_⟩;rcases a.2 with f|⟨g,cap,d,c,k,m,r⟩
 ·exact qX f
 ·exact qY ⟨g,cap,d,c,k,(h.block g (j g (ja.2 (by rw[c];rfl)))).trans m,r⟩
section
variable {At:j6}{w1 w w':World}{gd gs r seed i cn:Nat}{T:List jb}
theorem qY4(api:j8 At){A:Option Addr}{n c:Nat}{ns:List Tw}(h:PgS At w1 gd gs r seed i T cn (jS (.slice A n c)) w)(F:vf w w1.1.size (.slice A n c) ns)(z:n=ns.length)(J:ns.length<=5)(x:Tw)(o:TypeId):
  ∃u w',(Builtin.append_ #[55,55] o #[.slice A n c,.slice (some ⟨w.1.size,0,none⟩) 1 1]).run prog (w.alloc (.cells #[x] 9))=.ok u w'/\∃d f,u=.slice d (n+1) f/\PgS At w1 gd gs r seed i T cn (jS (.slice d (n+1) f)) w'/\vf w' w1.1.size (.slice d (n+1) f) (ns++[x]):=by
 subst z;have K:=h.base.size;have m:=(qG w.1.size w).alloc (qK _) (.cells #[x] 9);have l:=vf.below F m (qK _);have I:=h.below api m;obtain⟨d,f,w',p,k,s,t⟩:=CK l (CJ w x) (by simp;omega) (by simp;omega) o;refine⟨_,w',p,d,f,rfl, ?_,k⟩;have v:∀b∈jS (.slice A ns.length c),w1.1.size<=b:=fun b a=>(l.lt b (ja.1 a)).1
 have H:jP (jS (.slice A ns.length c)) (w.alloc (.cells #[x] 9)) w':=(jP.refl _ _).grown s (fun j y=>qX (ja.2 y));refine I.xL api H (fun b a=>⟨a,v b a⟩) (fun b a=>?_);have g:=ja.1 a;rcases t with q|q
 ·exact qX (ja.2 (by rw[<-q];exact g))
 ·have C:(Value.slice d (ns.length+1) f).ownBlock=some (w.alloc (.cells #[x] 9)).1.size:=q;rw[C]at g;have:=qb g;exact qY ⟨by omega,(k.lt b (ja.1 a)).2⟩
end
theorem vf.cells{w:World}{base n c k:Nat}{A:Option Addr}{l:List Tw}(h:vf w base (.slice A n c) l){x:Tw}(a:l[k]? = some x):∃g,A=some ⟨g,0,none⟩/\g<w.1.size/\w.cell? ⟨g,k,none⟩=some (.string x):=by
 have p:=(qO.1 a).1
 have d:n=l.length:=by
  obtain⟨f,j,e,-⟩:=vl h;exact(Value.slice.inj e).2.1
 subst d
 have b:∃g,A=some ⟨g,0,none⟩:=by
  rcases h.2 with⟨e,o⟩|⟨g,cap,m,e,-⟩
  ·omega
  ·exact⟨g,(Value.slice.inj e).1⟩
 obtain⟨g,rfl⟩:=b;refine⟨g,rfl,(h.lt g rfl).2,(h.cellAt k (by omega)).trans ?_⟩;show(l.map nS)[k]? = _;rw[qv,a];rfl
theorem qY5{T:List jb}(b:uE T)(s:Tw)(a n:Nat):(ofT s T).take a++kv s (a:Nat) ((a:Int)+(n:Nat)-1) T=(ofT s T).take (a+n):=by
 rw[Df b,show((a:Nat):Int).toNat=a by omega,show((a:Int)+(n:Nat)-1+1).toNat-a=n by omega,List.take_add]
theorem qY6{T:List jb}(b:uE T)(s:Tw)(a:Int)(n:Nat)(c:0<=a):((ofT s T).drop (a+1).toNat).reverse++(kv s (a-(n:Nat)+1) a T).reverse=((ofT s T).drop (a-(n:Nat)+1).toNat).reverse:=by
 rw[Df b,<-List.reverse_append];congr 1;have e:(a+1).toNat=(a-(n:Nat)+1).toNat+((a+1).toNat-(a-(n:Nat)+1).toNat):=by omega
 conv=>lhs;rhs;rw[e,<-List.drop_drop]
 exact qp _ _
theorem qY7{T:List jb}{k:Nat}{x:jb}(s:Tw)(h:T[k]? = some x):ofT s (T.take (k+1))=if x.s=s then ofT s (T.take k)++[x] else ofT s (T.take k):=by
 rw[xQ,h,XJ];by_cases e:x.s=s
 ·rw[qV e];congr 1;show ofT s [x]=[x]
  unfold ofT;rw[List.filter_cons,qV (qB e)];rfl
 ·rw[qZ e]
  have:ofT s (some x).toList=[]:=by
   show ofT s [x]=[]
   unfold ofT;rw[List.filter_cons,qZ (by simpa using e)];rfl
  rw[this,List.append_nil]
section
variable {At:j6}{w0 we wr w':World}{gd gl gx gs r seed cnt:Nat}{S:IxS}{L:jq}{chs:List (List Tw)}{D:jL}{E N:List Nat}{lv:Value}{G:List jb}
theorem yu.cat(api:j8 At)(h:yu At w0 gd gl gx gs r seed S L chs D E we G lv cnt N wr)(J:w0.1.size<=we.1.size){o:Value}{P:List jb}(I:fv wr o P)(K:G.length+P.length<=100000)(y:∀b∈E,b<we.1.size)(m:TypeId):
  ∃f g p w',(Builtin.append_ #[36,36] m #[lv,o]).run prog wr=.ok (.slice f (G.length+P.length) g) w'/\yu At w0 gd gl gx gs r seed S L chs D E we (G++P) (.slice f (G.length+P.length) g) cnt p w':=by
 have M:=h.kept.size;obtain⟨A,c,w',s,d,t,v⟩:=KI h.row I (by omega) (by omega) m;have k:∀b∈jS lv,we.1.size<=b/\b<wr.1.size:=fun b a=>h.row.own b a
 have l:jP (jS lv) wr w':=(jP.refl _ _).grown t (fun j z=>qX (ja.2 z))
 have H:∀b∈jS (.slice A (G.length+P.length) c),b∈jS lv∨b=wr.1.size:=fun b a=>by
  have a:=ja.1 a;rcases v with q|q
  ·exact qX (ja.2 (by rw[<-q];exact a))
  ·rw[q]at a;exact qY (qb a).symm
 have hst:=h.st.xL api (E':=(jS (.slice A (G.length+P.length) c)++N)++E) l (fun b a=>⟨qW _ (h.ol b a),by have:=(k b a).1;omega⟩) (fun b a=>by
  rcases qD.1 a with q|q
  ·rcases qD.1 q with q|q
   ·rcases H b q with j|j
    ·exact qX (qW _ (h.ol b j))
    ·exact qY ⟨by omega,(d.lt b (ja.1 q)).2⟩
   ·exact qX (qW _ q)
  ·exact qX (qJ _ q))
 have F:∀b∈E,b<wr.1.size/\b ∉ jS lv:=fun b a=>⟨h.st.lt b (qJ _ a),fun C=>by have:=(k b C).1;have:=y b a;omega⟩
 refine⟨A,c,jS (.slice A (G.length+P.length) c)++N,w',s,⟨by unfold kI;rw[qL];unfold kI at d;rw[qL]at d;exact d,hst,h.kept.trans (jM.xP l F),fun b a=>qW _ a,fun b a=>?_⟩⟩;rcases qD.1 a with q|q
 ·exact(d.lt b (ja.1 q)).1
 ·exact h.low b q
theorem yu.call{d:Nat}{c:List Nat}(h:yu At w0 gd gl gx gs r seed S L chs D E we G lv cnt N wr)(j:jg At w0 gd gl gx gs r seed S L chs { D with count:=d } (c++(N++E)) w')(f:jM (N++E) wr w')(g:∀b∈c,wr.1.size<=b):yu At w0 gd gl gx gs r seed S L chs D E we G lv d (c++N) w':=by
 have k:=h.kept.size;refine⟨f.x8 h.row (fun b a=>qW _ (h.ol b a)),by rw[qh];exact j,h.kept.trans (f.less (fun b a=>qJ _ a)),fun b a=>qJ _ (h.ol b a),fun b a=>?_⟩;rcases qD.1 a with q|q
 ·have:=g b q;omega
 ·exact h.low b q
theorem yu.over(api:j8 At)(h:yu At w0 gd gl gx gs r seed S L chs D E we G lv cnt N wr)(k:w0.1.size<=we.1.size)(f:∀b∈E,b<we.1.size){R:List jb}(j:kI w' we.1.size lv R)(d:jP (jS lv) wr w'):yu At w0 gd gl gx gs r seed S L chs D E we R lv cnt N w':=by
 have c:∀b∈jS lv,we.1.size<=b/\b<wr.1.size:=fun b a=>h.row.own b a
 refine⟨j,h.st.xL api d (fun b a=>⟨qW _ (h.ol b a),by have:=(c b a).1;omega⟩) (fun b a=>qX a),h.kept.trans (jM.xP d (fun b a=>⟨h.st.lt b (qJ _ a),fun g=>by have:=(c b g).1;have:=f b a;omega⟩)),h.ol,h.low⟩
end
section
variable {At:j6}(api:j8 At)(nap:kZ)(cap:v8){w0 w:World}{gd gl gx gs r seed:Nat}{S:IxS}{L:jq}{chs:List (List Tw)}{D:jL}{E:List Nat}
theorem FN(h:jg At w0 gd gl gx gs r seed S L chs D E w)(j:(jR 0 chs).length<=90)(s:Tw)(a b:Int):S.T.length+2*(yF S (kx seed s.data.toList) a b).length<=2000:=by
 have g:=h.sx.ok.xS;have d:=mz seed (jR 0 chs) h.rb.whole;have f:(yF S (kx seed s.data.toList) a b).length<=(yI seed (jR 0 chs)).length:=lO (pI h.sx.ok _ a b) (fun x c=>(h.rb.has x).1 ((nr h.sx.ok _ a b x).1 c).1);omega
include api nap cap in
theorem qY8{cnt:Nat}(h:jg At w0 gd gl gx gs r seed S L chs { D with count:=cnt } E w)(p:cnt<=700000000)(j:(jR 0 chs).length<=90)(s:Tw)(m:s.size<=maxLen)(l:stS s=true)(a n:Nat)(o:a<=100000)(t:1<=n)(v:n<=1000):
  Calls prog 13 #[ptr gs,s,a,n] w fun e w'=>∃A c b,b<=cnt+2000/\e=.returned (.tuple #[.slice A (kv s (a:Nat) ((a:Int)+(n:Nat)-1) (jn (jR 0 chs))).length c,.int .i64 0])/\kI w' w.1.size (.slice A (kv s (a:Nat) ((a:Int)+(n:Nat)-1) (jn (jR 0 chs))).length c) (kv s (a:Nat) ((a:Int)+(n:Nat)-1) (jn (jR 0 chs)))/\jg At w0 gd gl gx gs r seed S L chs { D with count:=b } (jS (.slice A (kv s (a:Nat) ((a:Int)+(n:Nat)-1) (jn (jR 0 chs))).length c)++E) w'/\jM E w w':=by
 refine(FC api nap cap h (by show cnt<=_;omega) (by omega) s m (a:Nat) (n:Nat) (WalkArith.wf_i64 (by omega)) (WalkArith.wf_i64 (by omega)) (by unfold gE;rw[qV ⟨l,by omega,by omega⟩])).mono ?_;rintro e w'⟨A,c,k,q,rfl,d,f,g⟩;have:=FN h j s (a:Nat) (pN (a:Nat) (n:Nat));exact⟨A,c,cnt+k,by omega,rfl,d,f,g⟩
include api nap cap in
theorem qY9{cnt:Nat}(h:jg At w0 gd gl gx gs r seed S L chs { D with count:=cnt } E w)(q:cnt<=700000000)(j:(jR 0 chs).length<=90)(s:Tw)(m:s.size<=maxLen)(l:stS s=true)(a:Int)(n:Nat)(p:0<=a)(o:a<=100000)(v:1<=n)(y:n<=1000):
  Calls prog 21 #[ptr gs,s,a,n] w fun e w'=>∃A c b,b<=cnt+2000/\e=.returned (.tuple #[.slice A (kv s (a-(n:Nat)+1) a (jn (jR 0 chs))).reverse.length c,.int .i64 0])/\kI w' w.1.size (.slice A (kv s (a-(n:Nat)+1) a (jn (jR 0 chs))).reverse.length c) (kv s (a-(n:Nat)+1) a (jn (jR 0 chs))).reverse/\jg At w0 gd gl gx gs r seed S L chs { D with count:=b } (jS (.slice A (kv s (a-(n:Nat)+1) a (jn (jR 0 chs))).reverse.length c)++E) w'/\jM E w w':=by
 refine(FD api nap cap h (by show cnt<=_;omega) (by omega) s m a (n:Nat) (WalkArith.wf_i64 (by omega)) (WalkArith.wf_i64 (by omega)) (by unfold gE;rw[qV ⟨l,by omega,by omega⟩])).mono ?_;rintro e w'⟨A,c,k,t,rfl,d,f,g⟩;have:=FN h j s (a-(n:Nat)+1) a;exact⟨A,c,cnt+k,by omega,rfl,d,f,g⟩
include api nap cap in
theorem qYq{cnt:Nat}(h:jg At w0 gd gl gx gs r seed S L chs { D with count:=cnt } E w)(g:cnt<=700000000)(l:(jR 0 chs).length<=90)(s:Tw)(f:s.size<=maxLen)(d:stS s=true):
  Calls prog 20 #[ptr gs,s] w fun e w'=>∃a,a<=cnt+70000/\e=.returned (.tuple #[.int .i64 (((ofT s (jn (jR 0 chs))).length:Nat)-1),.int .i64 0])/\jg At w0 gd gl gx gs r seed S L chs { D with count:=a } E w'/\jM E w w':=by
 refine(FE api nap cap h (by show cnt<=_;omega) (by omega) s f d).mono ?_;rintro e w'⟨k,j,rfl,b,c⟩;exact⟨cnt+k,by omega,rfl,b,c⟩
end
end
end Go.Proofs.YthejglbnkmimjaaGreat

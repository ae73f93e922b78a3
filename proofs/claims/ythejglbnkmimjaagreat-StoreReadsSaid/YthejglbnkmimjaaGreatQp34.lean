import Derived.Test.YthejglbnkmimjaaGreatQp33
import Derived.Test.YthejglbnkmimjaaGreatQp21
import Derived.Test.YthejglbnkmimjaaGreatQp18
set_option linter.unusedVariables false
set_option maxRecDepth 100000
set_option maxHeartbeats 9000000
namespace Go.Proofs.YthejglbnkmimjaaGreat
open Proofs.Tryz
section
open Go.RowKit Go.Shelf
theorem qKn{seed:Nat}{l:List Rec}{s:Tw}{x:jT}(f:x∈ofT s (ja l)):∃y∈uE seed l,y.h=kX seed s.data.toList/\y.v=x.v:=by
 obtain⟨b,d⟩:=nL.1 f;obtain⟨a,k,b⟩:=xZ.1 b;obtain⟨i,c⟩:=qd b;unfold bL at c;rw[nI]at c;obtain⟨y,g,rfl⟩:=xG.1 c;have j:=(qO.1 g).1;simp only at d;exact⟨⟨kX seed (bgS a.2).data.toList,bgF a.2+(i:Nat),(a.1:Nat)⟩,sJ.2 ⟨a,k,qP.2 ⟨i,List.mem_range.2 j,rfl⟩⟩,by rw[<-d],rfl⟩
theorem qKp{s:Tw}{a b:Int}{T:List jT}(h:kV s a b T=[]):∀x∈ofT s T,x.v<=b->x.v<a:=fun x f d=>by
 rcases Int.lt_or_le x.v a with c|c
 ·exact c
 ·have:x∈kV s a b T:=mD.2 ⟨f,c,d⟩;rw[h]at this;cases this
section
variable {At:jR}(api:jS At)(nap:jw)(cap:vR){w0 w:World}{gd gl gx gs r seed:Nat}{S:IxS}{L:jq}{chs:List (List Tw)}{D:jD}{E:List Nat}
theorem qKr(h:ju At w0 gd gl gx gs r seed S L chs D E w){s:Tw}{u z:Int}(H:u<=1073741824)(m:uw (uX S) (kX seed s.data.toList) (kY u) z)(o:∀x∈ofT s (ja (jP 0 chs)),x.v<=u):(∀x∈ofT s (ja (jP 0 chs)),x.v<=z)/\-1<=z/\z<=1073741823/\(0<=z->z<=u):=by
 obtain⟨f,c,A⟩:=m;have j:kY u=u:=by unfold kY;omega
 rw[j]at f c;refine⟨fun x a=>?_,A, ?_,fun G=>?_⟩
 ·obtain⟨y,p,d,C⟩:=qKn (seed:=seed) a;have:=f y ((h.rb.has y).2 p) d (by rw[C];exact o x a);omega
 ·rcases c with e|⟨y,d,-,-,g⟩
  ·omega
  ·obtain⟨b,t,i,k,rfl⟩:=sV ((h.rb.has y).1 d);have:=sA (l:=[b]) (fun x a=>by rw[qH.1 a];exact h.rb.whole b t) _ (xZ.2 ⟨b,qC,Qc k⟩);simp only at this g;omega
 ·rcases c with e|⟨y,-,-,I,g⟩
  ·omega
  ·omega
include api nap cap
theorem DI(h:ju At w0 gd gl gx gs r seed S L chs D E w)(hc:D.count<=700000000)(t:(jP 0 chs).length<=100)(s:Tw)(X:s.size<=maxLen):
  Calls prog 41 #[ptr gs,s] w fun e w'=>∃k,k<=70000/\e=.returned (.tuple #[.int .i64 (uN s (ja (jP 0 chs))),.int .i64 0])/\ju At w0 gd gl gx gs r seed S L chs { D with count:=D.count+k } E w'/\jE E w w':=by
 have aj:kX seed s.data.toList<18446744073709551616:=XJ _ _;have aB:=h.len.2.2.2;have ak:=h.sd;have aI:S.T.length<=40:=h.sx.ok.xR;have ao:=qQ (fun W d (g:ju At w0 gd gl gx gs r seed S L chs { D with count:=d } E W)=>Jr g.cells.2.2.2 ak s X)
 have ap:Hid (∀W d,d<=900000000->ju At w0 gd gl gx gs r seed S L chs { D with count:=d } E W->∀u:Int,0<=u->u<=1073741824->(∀x∈ofT s (ja (jP 0 chs)),x.v<=u)->Calls prog 86 #[ptr gx,.int .u64 (kX seed s.data.toList:Nat),.int .i64 u] W fun e w'=>∃(z:Int) (k:Nat),k<=200/\((∀x∈ofT s (ja (jP 0 chs)),x.v<=z)/\-1<=z/\z<=1073741823/\(0<=z->z<=u))/\e=.returned (.tuple #[z,.int .i64 0]) /\
   ju At w0 gd gl gx gs r seed S L chs { D with count:=d+k } E w'/\jE E W w'/\(w'.cell? ⟨gs,2,none⟩=some (ptr gx)/\w'.cell? ⟨gs,3,none⟩=some (.int .u64 (seed:Nat)))):=qQ fun W d ai g u u0 u1 H =>
  (qKP api nap g.sx (by show d<=_;omega) (by omega) _ aj u (WalkArith.wf_i64 (by omega))).mono (by
   rintro e w'⟨z,k,hk,ht,rfl,hi,aA⟩;obtain⟨Q,g2⟩:=g.step hi aA g.rb g.vs;exact⟨z,k,hk,qKr g u1 ht H,rfl,Q,g2,Q.cells.2.2.1,Q.cells.2.2.2⟩)
 have an:Hid (∀W d,d<=800000000->ju At w0 gd gl gx gs r seed S L chs { D with count:=d } E W->∀a b:Int,-1073741825<=a->a<=1073741825->-1<=b->b<=1073741825->Calls prog 34 #[ptr gs,s,.int .i64 a,.int .i64 b] W (lF At w0 gd gl gx gs r seed S L chs { D with count:=d } (kV s a b (ja (jP 0 chs))) 1700 E W)):=qQ fun W d ai g a b a0 a1 b0 b1 =>
  (Ja api nap cap g ai t s X a b (WalkArith.wf_i64 (by omega)) (WalkArith.wf_i64 (by omega))).mono (by
   rintro e w'⟨A,c,k,hk,aF⟩;refine⟨A,c,k, ?_,aF⟩;have G:=nM seed (jP 0 chs) g.rb.whole;have I:(vf S (kX seed s.data.toList) a b).length<=(uE seed (jP 0 chs)).length:=lA (nN g.sx.ok _ a b) (fun x f=>(g.rb.has x).1 ((mI g.sx.ok _ a b x).1 f).1);omega)
 have av:=qQ h.vs;have au:=qQ (show(ja (jP 0 chs)).length<=800 by have:=lD (jP 0 chs) h.rb.whole;omega);have ar:=qQ h;have ae:Hid (∀x∈ofT s (ja (jP 0 chs)),0<=x.v/\x.v<=1073741824):=qQ fun x f=>by have:=sA h.rb.whole x (nL.1 f).1;omega
 have aG:=qQ h.lt;generalize ja (jP 0 chs)=T at*;generalize kX seed s.data.toList=hh at*;clear h aj aB ak t X;go_enter func41,ntmps41;go_wp2;go_loopw [6,7] (fun up mv wr=>∃(u:Int) (j m d:Nat),up=.int .i64 u/\mv=.int .i64 (m:Nat)/\m=2 ^ j/\j<=30/\0<=u/\u<=1073741824/\(∀x∈ofT s T,x.v<=u)/\D.count<=d/\d<=D.count+2000*j/\ju At w0 gd gl gx gs r seed S L chs { D with count:=d } E wr/\jE E w wr) (fun up _ _=>(intOf up).toNat)
 case atStart=>exact⟨1073741824,0,1,D.count,rfl,rfl,rfl,by omega,by omega,by omega,fun x f=>(ae.out x f).2,qK _,qK _,ar.out,jE.refl _ _⟩
 case round =>
  obtain⟨u,j,m,d,rfl,rfl,M,hj,aC,aD,H,aK,aL,hS,hK⟩:=hrel
  have aQ:m<=1073741824:=by
   have:=Nat.pow_le_pow_right (show 0<2 by decide) hj;rw[M];exact this
  have aO:1<=m:=by rw[M];exact Nat.one_le_two_pow
  have J:=hS.drew api;obtain⟨-,-,c2,c3⟩:=J.cells;have ax:wr.drew.cell? ⟨gs,2,none⟩=some (ptr gx)/\wr.drew.cell? ⟨gs,3,none⟩=some (.int .u64 (seed:Nat)):=⟨c2,c3⟩
  have aa:=qQ (ao.out _ d J);have ad:=qQ (ap.out _ d (by omega) J u aC aD H);have ab:=qQ (show jE E w wr.drew from hK.drew);have HM:=qQ (qG M H);clear hS J hK M H c2 c3;go_wp2_with fail
  go_region_held3 (fun W=>W.cell? ⟨gs,2,none⟩=some (ptr gx)/\W.cell? ⟨gs,3,none⟩=some (.int .u64 (seed:Nat)))
   (first|(with_reducible assumption)|fail)
   (first
   | (go_at_call 61;((with_reducible refine X5 aa.out ?_)))
   | (go_at_call 86;((with_reducible refine ad.out.mono ?_);rintro e w2⟨z,o,aM,aE,rfl,I,k2,ay⟩))
   | fail)
  rename_i aw;obtain⟨z1,z2,z3,Y⟩:=aE;have ea:z-(m:Int)+1=z-(m:Int)+1:=rfl;have Z:=qQ (an.out w2 (d+o) (by omega) I (z-(m:Int)+1) z (by omega) (by omega) (by omega) (by omega));have O:=qQ z1;have ac:=qQ (ab.out.trans k2);clear I k2 ay ax aw aa ad ab ea z1;go_wp2_with fail;refine Z.out.mono ?_;rintro e w3⟨A,c,p,aN,rfl,V,R,am⟩;obtain⟨P,C⟩:∃P,P=kV s (z-(m:Int)+1) z T:=⟨_,rfl⟩
  rw[<-C]at V R ⊢;obtain⟨n,t⟩:∃n,n=P.length:=⟨_,rfl⟩
  have hF:=V.xE.form;have af:ju At w0 gd gl gx gs r seed S L chs { D with count:=d+o+p } E w3:=R.less (fun b hb=>qJ _ hb);have y:=qQ (qG af (ac.out.trans am));clear R af V am Z ac;rw[<-t]at hF ⊢;by_cases h0:n=0
  ·have ag:P=[]:=xK.1 (by omega);have N:=qQ (qKp (by rw[<-C];exact ag));subst h0;clear hF C ag t;by_cases aR:z<(m:Int)
   ·have HV:Hid (uN s T = -1):=qQ (by
     have:ofT s T=[]:=by
      refine List.eq_nil_iff_forall_not_mem.2 fun x f=>?_
      have G:=N.out x f (O.out x f);have I:=(ae.out x f).1;omega
     unfold uN;rw[this];rfl)
    clear N;go_wp2;go_ret2;refine⟨d+o+p-D.count,by omega,by rw[HV.out];rfl, ?_,y.out.2⟩;rw[show D.count+(d+o+p-D.count)=d+o+p by omega];exact y.out.1
   ·have aP:j<=29:=by
     rcases qh j 30 with c|c
     ·omega
     ·exfalso;have G:=Nat.pow_le_pow_right (show 0<2 by decide) c;rw[<-HM.out.1]at G;have:(2:Nat) ^ 30=1073741824:=(by decide);omega
    have aS:=Y (by omega);clear Y;go_wp2;go_roundw
    case rel =>
     refine⟨z-(m:Int),j+1,m*2,d+o+p,by go_num,by go_num,by rw[Nat.pow_succ,<-HM.out.1],by omega,by omega,by omega,fun x f=>?_,by omega,by omega,y.out.1,y.out.2⟩;have G:=N.out x f (O.out x f);omega
    case measure=>simp[intOf];omega
  ·obtain⟨l,rfl⟩:∃l,n=l+1:=⟨n-1,by omega⟩
   obtain⟨x,f⟩:∃x,P[l]? = some x:=⟨_,qD (by omega)⟩
   have al:P.getLast? = some x:=(by rw[List.getLast?_eq_getElem?,<-t];exact f);have hv:x.v=uN s T:=qKU av.out O.out (by rw[<-C];exact al);obtain⟨A',off,aH,e1,-,ah⟩:=hF;obtain⟨b0,rfl,aJ,d0,d1,-⟩:=ah l x f;obtain⟨rfl,-,-⟩:=Value.slice.inj e1;obtain⟨lt,U⟩:∃lt,lt=uN s T:=⟨_,rfl⟩
   rw[hv,<-U]at d1;have aq:=qQ U;have s1:((l+1:Nat):Int)-1=(l:Int):=(by omega);have s2:(l:Int)<((l+1:Nat):Int):=by omega
   have az:l<800:=by
    have G:P.length<=T.length:=(by rw[C];exact qR (List.length_filter_le _ _) (List.length_filter_le _ _));have:=au.out;omega
   have s3:(l:Int)<800:=(by omega);clear az;clear e1 ah hv al f C t d0 Y U;go_wp2;go_ret2;refine⟨d+o+p-D.count,by omega,by rw[<-aq.out];rfl, ?_,y.out.2⟩;rw[show D.count+(d+o+p-D.count)=d+o+p by omega];exact y.out.1
end
section
variable {At:jR}(api:jS At)(nap:jw)(cap:vR){w0 w:World}{gd gl gx gs r seed:Nat}{S S':IxS}{L L':jq}{chs chs':List (List Tw)}{D D':jD}{E:List Nat}
structure DL(S S':IxS)(chs chs':List (List Tw))(D D':jD)(s:Tw)(f:Int)(l:List jj):Prop where
 all:ja (jP 0 chs')=ja (jP 0 chs)++yc s f l
 len:(jP 0 chs').length=(jP 0 chs).length+1
 m:S'.m=S.m
 T:S'.T=S.T
 cap:D'.cap=D.cap
 count:D'.count=D.count
 map:(jN D'.l jh).map jI.data=(jN D.l jh).map jI.data
 used:jM D'.l<=jM D.l+2024
 jU:chs'.length<=chs.length+1
def sB(chs:List (List Tw))(D:jD):Prop:=D.cap<jM D.l+8024∨199<chs.length
def DM(At:jR)(w0:World)(gd gl gx gs r seed:Nat)(S:IxS)(L:jq)(chs:List (List Tw))(D:jD)(s:Tw)(f:Int)(l:List jj)(E:List Nat)(w:World)(e:Ending)(w':World):Prop :=
 (e=.returned (.int .i64 60)/\sB chs D/\ju At w0 gd gl gx gs r seed S L chs D E w'/\jE E w w') ∨
 (e=.returned (.int .i64 0)/\∃S' L' chs' D',ju At w0 gd gl gx gs r seed S' L' chs' D' E w'/\jE E w w'/\DL S S' chs chs' D D' s f l)
include api nap cap
theorem qKs(h:je At w0 gd gl gx r S L chs D E w)(p:Tw)(a:p.size<=2000):Calls prog 88 #[ptr gl,p] w fun e w' =>
  (e=.returned (.tuple #[.int .i64 0,.int .i64 60])/\sB chs D/\je At w0 gd gl gx r S L chs D E w'/\jE E w w') ∨
  ∃q D' M chs',e=.returned (.tuple #[.int .i64 (q:Nat),.int .i64 0])/\je At w0 gd gl gx r S M chs' D' E w'/\jE E w w'/\mZ D L chs p q D' M chs':=by
 by_cases b:sB chs D
 ·refine(qKS api nap cap h p a).mono ?_;rintro e w' (⟨rfl,q⟩|q)
  ·exact qX ⟨rfl,b,q⟩
  ·exact qY q
 ·unfold sB at b;exact(qKT api nap cap h p a (by omega) (by omega)).mono fun e w' q=>qY q
theorem qKt(h:ju At w0 gd gl gx gs r seed S L chs D E w)(hn:(jP 0 chs).length<=100)(s:Tw)(l:List jj){A:Option Addr}{n c:Nat}(hv:vC w (.slice A n c) l)(aH:n=l.length)(hb:∀x∈l,bC x)(f:Int)(hf:f=((ofT s (ja (jP 0 chs))).length:Nat))(N:kQ s f l=0):
  Calls prog 42 #[ptr gs,.agg #[s,f,.slice A n c]] w (DM At w0 gd gl gx gs r seed S L chs D s f l E w):=by
 obtain⟨k1,k2,k3,k4,k5,k6,-⟩:=gh.1 N;have aD:∀x∈l,x.b<18446744073709551616:=fun x a=>(hb x a).b
 obtain⟨o,t,v,g⟩:=T8 N aD;have ak:=(TO N).2;have a4:=h.base.size;have aF:=h.lt;have a5:=h.len.1;have aa:=(qU w.1.size w).alloc (qK _) (.cells #[s,f,.slice A n c] 92);have z:=jF.new w 92 #[s,f,.slice A n c];have af:=h.more api aa (B:=[w.1.size]) (fun x a=>by rw[qH.1 a];exact⟨qK _,z.lt⟩);have ag:=h.xy aa;have aj:=hv.below aa (qK _);obtain⟨w1,aZ⟩:∃w1,w.alloc (.cells #[s,f,.slice A n c] 92)=w1:=⟨_,rfl⟩
 rw[aZ]at z af ag aj;have C:=qZq s f (.slice A n c) l w1 ⟨by omega,WalkArith.wf_i64 (by omega),aj,by omega,hb⟩;unfold oR km at C;rw[qV N,N]at C;obtain⟨p,hp⟩:∃p,p=uC s f.toNat l:=⟨_,rfl⟩
 rw[<-hp]at C o t v g ak;have C:=qQ C;have aO:=qQ ak;have am:=qQ (fun W (I:ju At w0 gd gl gx gs r seed S L chs D ([w.1.size]++E) W)=>qKs api nap cap I.sx p ak);have ae:=qQ af;have au:=qQ ag;have an:=qQ z;have a0:=z.cell 0;have a1:=z.cell 1;have a2:=z.cell 2;have ar:=qQ (fun(W:World) (hc:W.cell? ⟨gs,3,none⟩=some (.int .u64 (seed:Nat)))=>Jr hc h.sd s (by unfold maxLen;omega));have HP:=qQ (qG o (qG t (qG v g)));have a7:n<=8:=by omega
 have av:=qQ aH;have ay:=qQ h.vs;have aw:=qQ h.rb;have HF:=qQ hf;have a3:=qQ aF;have aL:=qQ (show L.endp=vB chs from h.sx.gl.endp);clear aa af ag aj hv z h hp hb aD N o t v g aH hf k1 k2 k3 k4 aF;go_enter func42,ntmps42;go_wp2_with fail;refine KG C.out fun w2 Y=>?_;have Z:=ae.out.below api Y;have B2:=an.out.below Y;have aK:=au.out.trans (jE.xA Y (fun x a=>ae.out.lt x (qJ _ a)));obtain⟨-,c1,-,-⟩:=Z.cells;have ac:=qQ (am.out w2 Z);have j:=qQ (qG Z (qG B2 aK));clear Z B2 aK Y am C ae au an a0 a1 a2;go_wp2_with fail;refine ac.out.mono ?_;rintro e w3 (⟨rfl,aI,V,Q⟩|⟨q,D3,M,H,rfl,V,Q,G⟩)
 ·have ai:=j.out.1.step V Q aw.out ay.out;have aN:=qQ aI;have ao:=qQ (qG (ai.1.less (fun x a=>qJ _ a):ju At w0 gd gl gx gs r seed S L chs D E w3) (j.out.2.2.trans (ai.2.less (fun x a=>qJ _ a))));clear ai V Q ac c1 aI;go_wp2;go_ret;exact qX ⟨rfl,aN.out,ao.out.1,ao.out.2⟩
 ·have J:=G.all;have aT:vB H=q+(p.size+12):=by rw[<-G.log.endp,G.endp]
  have ab:vB chs<=q:=by rw[<-aL.out];exact G.behind
  have aU:=Jp G.xI;have a6:q<=819200:=by omega
  obtain⟨o,t,v,g⟩:=HP.out;have ad:=qQ (fun k (hk:k<(bgL p).length)=>qG (DW (seed:=seed) (q:=q) hk) (qJw (seed:=seed) (x:=(q,p)) o (by show q<=_;omega) _ (qM (DW hk))));rw[t,v,g,<-av.out]at ad;have aX:=j.out.1.st;have U:=qQ G;have HQ:=qQ (qG J (qG ab (show q<=vB H by omega)));have X:=qQ (qG V Q);obtain⟨hh,aE⟩:∃hh,hh=kX seed s.data.toList:=⟨_,rfl⟩
  rw[<-aE]at ar ad;have aA:=Q.xW j.out.2.1 (qF _ (qW _ qC));have az:=aA.cell 2;clear V Q ac c1 G J aT ab aU o t v g aX aE aA;go_wp2;go_loopw [33] (fun iv wr=>∃(k:Nat) (S':IxS),k<=n/\iv=.int .i64 (k:Nat)/\je At w0 gd gl gx r S' M H D3 (gs::([w.1.size]++E)) wr/\jE (gs::([w.1.size]++E)) w3 wr/\pQ seed q p k S S') (fun iv _=>n-(intOf iv).toNat)
  case atStart=>exact⟨0,S,qI _,rfl,X.out.1,jE.refl _ _,pQ.zero seed q p S⟩
  case round =>
   obtain⟨k,S2,hk,rfl,hi,O,d⟩:=hrel;have R:=(X.out.2.trans O).xW j.out.1.st qC;have P:=(X.out.2.trans O).xW j.out.2.1 (qF _ (qW _ qC));by_cases aV:k<n
   ·have s1:(k:Int)<(n:Int):=(by omega);obtain⟨he,aJ,aG⟩:=ad.out k aV;have al:=qQ (qK3 api (hi.drew api) d he aJ aG (by omega));have EW:Hid (IntKind.i64.wrap (f+(k:Int))=f+(k:Int)):=qQ (by rw[IntKind.wrap_i64];omega);have aB:wr.drew.cell? ⟨gs,2,none⟩=some (ptr gx)/\wr.drew.cell? ⟨gs,3,none⟩=some (.int .u64 (seed:Nat))/\wr.drew.cell? ⟨w.1.size,0,none⟩=some (.string s)/\wr.drew.cell? ⟨w.1.size,1,none⟩=some (.int .i64 f):=⟨R.drew.cell 2,R.drew.cell 3,P.drew.cell 0,P.drew.cell 1⟩
    have aq:=qQ (ar.out wr.drew aB.2.1);have ax:=qQ (fun W (I:jE (gs::([w.1.size]++E)) wr.drew W)=>(show W.cell? ⟨gs,2,none⟩=some (ptr gx)/\W.cell? ⟨gs,3,none⟩=some (.int .u64 (seed:Nat))/\W.cell? ⟨w.1.size,0,none⟩=some (.string s)/\W.cell? ⟨w.1.size,1,none⟩=some (.int .i64 f) from⟨(I.xW R.drew qC).cell 2,(I.xW R.drew qC).cell 3,(I.xW P.drew (qF _ (qW _ qC))).cell 0,(I.xW P.drew (qF _ (qW _ qC))).cell 1⟩));have HK:=qQ (show jE (gs::([w.1.size]++E)) w3 wr.drew from O.drew);clear hi O d he aJ aG R P az;go_wp2_with fail
    go_region_held3 (fun W=>W.cell? ⟨gs,2,none⟩=some (ptr gx)/\W.cell? ⟨gs,3,none⟩=some (.int .u64 (seed:Nat))/\W.cell? ⟨w.1.size,0,none⟩=some (.string s)/\W.cell? ⟨w.1.size,1,none⟩=some (.int .i64 f))
     (first|(with_reducible assumption)|fail)
     (first
     | (go_at_call 61;((with_reducible refine X5 aq.out ?_)))
     | (go_at_call 89;(try rw[EW.out]);((with_reducible refine al.out.mono ?_);rintro e w9⟨rfl,S9,h9,k9,a9⟩;have aR:=ax.out w9 k9))
     | fail)
    rename_i aQ;have H9:=qQ (qG h9 (qG (HK.out.trans k9) a9));clear h9 k9 a9 aR aQ aB al aq ax HK;go_wp2;go_roundw
    case rel=>exact⟨k+1,S9,by omega,by go_num,H9.out.1,H9.out.2.1,H9.out.2.2⟩
    case measure=>simp[intOf];omega
   ·obtain rfl:k=n:=(by omega);have s1:¬(k:Int)<(k:Int):=by omega
    have hF:DM At w0 gd gl gx gs r seed S L chs D s f l E w (.returned (.int .i64 0)) wr:=by
     obtain⟨o,t,v,g⟩:=HP.out;obtain⟨J,ab,aS⟩:=HQ.out;have aP:(yO seed (q,p)).take k=yO seed (q,p):=qp (by rw[qK1,g,<-av.out];exact qK _);have ah:=d.mem;rw[aP]at ah
     have aW:cF seed S2 H:=aw.out.append o J ab aS (fun y=>by
      unfold uX;rw[ah,d.T];constructor
      ·rintro ((q|q)|q)
       ·exact qX (qX q)
       ·exact qY q
       ·exact qX (qY q)
      ·rintro ((q|q)|q)
       ·exact qX (qX q)
       ·exact qY q
       ·exact qX (qY q)) d.T d.m (fun y hy=>(ah y).1 hy)
     have aC:ja (jP 0 H)=ja (jP 0 chs)++yc s f l:=by
      rw[J,qKZ];unfold bL;simp only;rw[t,v,g]
     have aY:yf (ja (jP 0 H)):=by
      rw[aC,HF.out];exact ay.out.snoc s l
     have hS:=j.out.1.step hi (X.out.2.trans O) aW aY;refine qY ⟨rfl,S2,M,H,D3,hS.1.less (fun x a=>qJ _ a),j.out.2.2.trans (hS.2.less (fun x a=>qJ _ a)),aC,by rw[J];simp,d.m,d.T,U.out.cap,U.out.count,U.out.others jh Cl,by have:=U.out.used;have:=aO.out;omega,U.out.jU⟩
    have aM:=qQ hF;clear hF hi O d R P az;go_wp2;go_ret;exact aM.out
end
def uc(s:Tw)(a:Int)(l:List jj)(T:List jT):Int:=if kQ s 0 l≠0 then kQ s 0 l else if a < -2 then 2 else if a≠-2/\a≠uN s T then 80 else 0
section
variable {At:jR}(api:jS At)(nap:jw)(cap:vR){w0 w:World}{gd gl gx gs r seed:Nat}{S S':IxS}{L L':jq}{chs chs':List (List Tw)}{D D':jD}{E:List Nat}
def pZ(At:jR)(w0:World)(gd gl gx gs r seed:Nat)(S:IxS)(L:jq)(chs:List (List Tw))(D:jD)(s:Tw)(a:Int)(l:List jj)(E:List Nat)(w:World)(e:Ending)(w':World):Prop :=
 ∃k,k<=70000/\((∃z,e=.returned (.tuple #[.int .i64 0,.int .i64 z])/\(z=uc s a l (ja (jP 0 chs))/\z≠0/\z≠60∨z=60/\uc s a l (ja (jP 0 chs))=0/\sB chs D)/\ju At w0 gd gl gx gs r seed S L chs { D with count:=D.count+k } E w'/\jE E w w') ∨
  (e=.returned (.tuple #[.int .i64 ((ofT s (ja (jP 0 chs))).length:Nat),.int .i64 0])/\uc s a l (ja (jP 0 chs))=0/\kQ s ((ofT s (ja (jP 0 chs))).length:Nat) l=0/\∃S' L' chs' D',ju At w0 gd gl gx gs r seed S' L' chs' D' E w'/\jE E w w'/\DL S S' chs chs' { D with count:=D.count+k } D' s ((ofT s (ja (jP 0 chs))).length:Nat) l))
include api nap cap
theorem Je(h:ju At w0 gd gl gx gs r seed S L chs D E w)(hc:D.count<=700000000)(hn:(jP 0 chs).length<=99)(s:Tw)(hs:s.size<=100000)(a:Int)(l:List jj){A:Option Addr}{n c:Nat}(hv:∀W,Below w0.1.size w0 W->jE E w W->vC W (.slice A n c) l)(aq:n=l.length)(hl:l.length<=300)(f:∀x∈l,bC x):
  Calls prog 18 #[ptr gs,s,a,.slice A n c] w (pZ At w0 gd gl gx gs r seed S L chs D s a l E w):=by
 have aB:=h.base.size;have ap:=h.lt;have aj:=(qU w.1.size w).alloc (qK _) (.cells #[s,.int .i64 0,.slice A n c] 92);have z:=jF.new w 92 #[s,.int .i64 0,.slice A n c];have R:=h.more api aj (B:=[w.1.size]) (fun x d=>by rw[qH.1 d];exact⟨qK _,z.lt⟩);have ab:=h.xy aj;obtain⟨w1,aE⟩:∃w1,w.alloc (.cells #[s,.int .i64 0,.slice A n c] 92)=w1:=⟨_,rfl⟩
 rw[aE]at z R ab;have N:=qQ (show Calls prog 40 #[.agg #[s,.int .i64 0,.slice A n c]] w1 (X3 (.int .i64 (kQ s 0 l)) w1) from QF s 0 (.slice A n c) l w1 ⟨hs,by decide,hv w1 R.base ab,hl,f⟩);have aa:=qQ (mF R.cells.1);have am:=qQ (fun W (hW:ju At w0 gd gl gx gs r seed S L chs D ([w.1.size]++E) W)=>DI api nap cap hW (by omega) (by omega) s (by unfold maxLen;omega))
 have ay:(ofT s (ja (jP 0 chs))).length<=800:=by
  have h1:=lD (jP 0 chs) h.rb.whole;have H:(ofT s (ja (jP 0 chs))).length<=(ja (jP 0 chs)).length:=List.length_filter_le _ _;omega
 have an:=qQ (fun W ax (hW:ju At w0 gd gl gx gs r seed S L chs { D with count:=ax } ([w.1.size]++E) W) (U:jE E w W) (Q:kQ s ((ofT s (ja (jP 0 chs))).length:Nat) l=0)=>qKt api nap cap hW (by omega) s l (hv W hW.base U) aq f _ rfl Q)
 have af:Hid (kQ s 0 l=0->kQ s ((ofT s (ja (jP 0 chs))).length:Nat) l=0):=qQ fun q=>by
  obtain⟨k1,k2,V,k4,I,k6,k7⟩:=gh.1 q;exact gh.2 ⟨k1,k2,V,k4,by omega,by omega,k7⟩
 have Z:Hid (uN s (ja (jP 0 chs))=((ofT s (ja (jP 0 chs))).length:Nat)-1):=qQ rfl;have al:Hid (kQ s 0 l=0∨kQ s 0 l=2∨kQ s 0 l=3):=qQ (TN s 0 l);have C:Hid (uc s a l (ja (jP 0 chs))=if kQ s 0 l≠0 then kQ s 0 l else if a < -2 then 2 else if a≠-2/\a≠uN s (ja (jP 0 chs)) then 80 else 0):=qQ rfl;have m:=qQ (qG R (qG ab z));have av:=qQ ap;have k0:=z.cell 0;have k1:=z.cell 1;have k2:=z.cell 2;obtain⟨G,Q⟩:∃G,G=kQ s 0 l:=⟨_,rfl⟩
 rw[<-Q]at N af al C;have aG:=qQ Q;clear aj z R ab h hv aq hl f ap Q hs hn;have aA:=al.out;by_cases P:G=0
 ·subst P;go_enter func18,ntmps18;go_wp2_with fail;refine X5 aa.out ?_;go_wp2_with fail;refine KG N.out fun w2 t=>?_;have H:=m.out.1.below api t;have X:=m.out.2.1.trans (jE.xA t (fun x d=>m.out.1.lt x (qJ _ d)));have B2:=m.out.2.2.below t;have M:=qQ (qG H (qG X B2));clear H X B2 t N aa k0 k1 k2 m;by_cases ha:a < -2
  ·have t1:decide (a < -2)=true:=qB ha;have hF:pZ At w0 gd gl gx gs r seed S L chs D s a l E w (.returned (.tuple #[.int .i64 0,.int .i64 2])) w2:=⟨0,by omega,qX ⟨2,rfl,qX ⟨by rw[C.out,qZ (by simp),qV ha],by decide,by decide⟩,M.out.1.less (fun x d=>qJ _ d),M.out.2.1⟩⟩
   have j:=qQ hF;clear hF;go_wp2;go_ret2;exact j.out
  ·have t1:decide (a < -2)=false:=qA ha;have ag:=qQ (am.out w2 M.out.1);obtain⟨lt,ao⟩:∃lt,lt=uN s (ja (jP 0 chs)):=⟨_,rfl⟩
   rw[<-ao]at ag C Z;clear am ao;go_wp2_with fail;refine ag.out.mono ?_;rintro e Y⟨k,U,rfl,h3,V⟩;have B3:=V.xW M.out.2.2 (qW _ qC);have au:=M.out.2.1.trans (V.less (fun x d=>qJ _ d));have g:=qQ (qG h3 (qG au B3));clear h3 V B3 au ag;by_cases o:a≠-2/\a≠lt
   ·have u1:(a != -2)=true:=(by simp;exact o.1);have u2:(a != lt)=true:=(by simp;exact o.2);have u3:(a==-2)=false:=qg.2 o.1;have u4:(a==lt)=false:=qg.2 o.2;have hF:pZ At w0 gd gl gx gs r seed S L chs D s a l E w (.returned (.tuple #[.int .i64 0,.int .i64 80])) Y:=⟨k,U,qX ⟨80,rfl,qX ⟨by rw[C.out,qZ (by simp),qZ (show ¬a < -2 by omega),qV o],by decide,by decide⟩,g.out.1.less (fun x d=>qJ _ d),g.out.2.1⟩⟩
    have j:=qQ hF;clear hF o;go_wp2;go_ret2;exact j.out
   ·have ak:Hid (uc s a l (ja (jP 0 chs))=0):=qQ (by rw[C.out,qZ (by simp),qZ (show ¬a < -2 by omega),qZ o]);have ae:=qQ (af.out trivial);have ai:=an.out;obtain⟨v,ac⟩:∃v,v=(ofT s (ja (jP 0 chs))).length:=⟨_,rfl⟩
    have aw:=qQ ac;rw[<-ac]at Z ae ay;simp only[<-ac]at ai;have el:lt+1=(v:Int):=(by have:=Z.out;omega);have aH:-1<=lt/\lt<=800:=(by omega);have J:=g.out.2.2.put 1 (.int .i64 (v:Int));have ht:jH [w.1.size] Y (Y.setCell ⟨w.1.size,1,none⟩ (.int .i64 (v:Int))):=(jH.refl _ _).setCell (p:=⟨w.1.size,1,none⟩) (qX qC) _;have h4:=g.out.1.xL api (E':=[w.1.size]++E) ht (fun b f=>by rw[qH.1 f];exact⟨qW _ qC,aB⟩) (fun b f=>qX f)
    have ad:jE E w (Y.setCell ⟨w.1.size,1,none⟩ (.int .i64 (v:Int))):=g.out.2.1.trans (jE.xP ht (fun b f=>⟨g.out.1.lt b (qJ _ f),fun hm=>by
     have h1:=qH.1 hm;have H:=av.out b f;omega⟩))
    have g1:=g.out.2.2.frozen 1;have j1:=g.out.2.2.cell 1;obtain⟨w4,aF⟩:∃w4,Y.setCell ⟨w.1.size,1,none⟩ (.int .i64 (v:Int))=w4:=⟨_,rfl⟩
    rw[aF]at J h4 ad;have m0:=J.cell 0;have m1:=J.cell 1;have m2:=J.cell 2;have ah:=qQ (ai w4 _ h4 ad ae.out);have H4:=qQ (qG h4 (qG ad J));clear J h4 ad ht an ai Z C af g ac
    have aD:(a = -2/\(a != -2)=false)∨(a≠-2/\(a != -2)=true/\(a != lt)=false):=by
     by_cases y:a = -2
     ·exact qX ⟨y,by rw[y];rfl⟩
     ·refine qY ⟨y,by simp;exact y, ?_⟩
      have:a=lt:=by
       by_cases q2:a=lt
       ·exact q2
       ·exact absurd ⟨y,q2⟩ o
      rw[this];simp
    clear o;rcases aD with⟨y,u1⟩|⟨y,u1,u2⟩
    all_goals
     clear y;go_wp2_with fail;refine ah.out.mono ?_;rintro e w5 (⟨rfl,ar,O,I⟩|⟨rfl,S',L',chs',D',O,I,wr⟩)
     ·have hF:pZ At w0 gd gl gx gs r seed S L chs D s a l E w (.returned (.tuple #[.int .i64 0,.int .i64 60])) w5:=⟨k,U,qX ⟨60,rfl,qY ⟨rfl,ak.out,ar⟩,O.less (fun x d=>qJ _ d),H4.out.2.1.trans (I.less (fun x d=>qJ _ d))⟩⟩
      have j:=qQ hF;clear hF O I ah ar;go_wp2;go_ret2;exact j.out
     ·have hF:pZ At w0 gd gl gx gs r seed S L chs D s a l E w (.returned (.tuple #[.int .i64 (v:Int),.int .i64 0])) w5:=by
       have az:=ae.out;have aC:=aw.out;subst aC;exact⟨k,U,qY ⟨rfl,ak.out,az,S',L',chs',D',O.less (fun x d=>qJ _ d),H4.out.2.1.trans (I.less (fun x d=>qJ _ d)),wr⟩⟩
      have j:=qQ hF;have B5:=I.xW H4.out.2.2 (qW _ qC);have r1:=B5.cell 1;clear hF O I ah wr B5;go_wp2;go_ret2;exact j.out
 ·have t0:(G != 0)=true:=by simp;exact P
  have t1:(G==0)=false:=qg.2 P;go_enter func18,ntmps18;go_wp2_with fail;refine X5 aa.out ?_;go_wp2_with fail;refine KG N.out fun w2 t=>?_;have H:=m.out.1.below api t;have X:=m.out.2.1.trans (jE.xA t (fun x d=>m.out.1.lt x (qJ _ d)));have hF:pZ At w0 gd gl gx gs r seed S L chs D s a l E w (.returned (.tuple #[.int .i64 0,.int .i64 G])) w2:=⟨0,by omega,qX ⟨G,rfl,qX ⟨by rw[C.out,qV P],P,by omega⟩,H.less (fun x d=>qJ _ d),X⟩⟩
  have j:=qQ hF;clear hF H X t N aa k0 k1 k2 m aA;go_wp2;go_ret2;exact j.out
end
section
variable {At:jR}(api:jS At)(nap:jw)(cap:vR){w0 w:World}{gd gl gx gs r seed:Nat}{S:IxS}{L:jq}{chs:List (List Tw)}{D:jD}{E:List Nat}
def yP(s:Tw)(a b:Int):Int:=if stS s=true/\0<=a/\1<=b then 0 else 2
theorem Qh(nap:jw){gs:Nat}{w:World}(h:w.cell? ⟨gs,0,none⟩=some (ptr gs))(s:Tw)(d:s.size<=maxLen)(a b:Int):Calls prog 33 #[ptr gs,s,a,b] w (X3 (.int .i64 (yP s a b)) w):=by
 have k:=qQ (mF h);have f:=qQ (nap.stream s w d);have j:Hid (yP s a b=if stS s=true/\0<=a/\1<=b then 0 else 2):=qQ rfl;generalize yP s a b=z at*;generalize stS s=q at*;clear h d;cases q with
 | false =>
   have d:z=2:=(by rw[j.out,qZ (by simp)]);subst d;go_enter func33,ntmps33;go_wp2_with fail;refine X5 k.out ?_;go_wp2_with fail;refine f.out.mono ?_;rintro e l⟨rfl,c⟩;have g:=qQ c;clear c f;go_wp2;go_ret;exact⟨rfl,g.out⟩
 | true =>
   by_cases m:a<0
   ·have d:z=2:=(by rw[j.out,qZ (by omega)]);subst d;have p:decide (a<0)=true:=qB m;go_enter func33,ntmps33;go_wp2_with fail;refine X5 k.out ?_;go_wp2_with fail;refine f.out.mono ?_;rintro e l⟨rfl,c⟩;have g:=qQ c;clear c f;go_wp2;go_ret;exact⟨rfl,g.out⟩
   ·have p:decide (a<0)=false:=qA m;by_cases o:b<1
    ·have d:z=2:=(by rw[j.out,qZ (by omega)]);subst d;have t:decide (b<1)=true:=qB o;go_enter func33,ntmps33;go_wp2_with fail;refine X5 k.out ?_;go_wp2_with fail;refine f.out.mono ?_;rintro e l⟨rfl,c⟩;have g:=qQ c;clear c f;go_wp2;go_ret;exact⟨rfl,g.out⟩
    ·have t:decide (b<1)=false:=qA o;have d:z=0:=(by rw[j.out,qV ⟨rfl,by omega,by omega⟩]);subst d;go_enter func33,ntmps33;go_wp2_with fail;refine X5 k.out ?_;go_wp2_with fail;refine f.out.mono ?_;rintro e l⟨rfl,c⟩;have g:=qQ c;clear c f;go_wp2;go_ret;exact⟨rfl,g.out⟩
def di(a b:Int):Int:=min a 1073741824+min b 1073741824-1
theorem qKa{l:List Rec}(hw:∀x∈l,vv x.2=true)(s:Tw){a b:Int}(d:0<=a)(f:1<=b):kV s a (di a b) (ja l)=kV s a (a+b-1) (ja l):=by
 unfold kV;refine List.filter_congr fun x c=>?_
 have:=sA hw x (nL.1 c).1;unfold di;exact decide_eq_decide.2 ⟨fun k=>⟨k.1,by omega⟩,fun k=>⟨k.1,by omega⟩⟩
include nap in
theorem DN(h:ju At w0 gd gl gx gs r seed S L chs D E w)(s:Tw)(j:s.size<=maxLen)(a b:Int)(d:yP s a b≠0):Calls prog 13 #[ptr gs,s,a,b] w (X3 (.tuple #[.slice none 0 0,.int .i64 2]) w):=by
 have c:=Qh nap h.cells.1 s j a b
 have g:yP s a b=2:=by
  unfold yP at d ⊢;split at d
  ·exact absurd rfl d
  ·rename_i q;rw[qZ q]
 rw[g]at c;have c:=qQ c;clear h j d g;go_enter func13,ntmps13;go_wp2_with fail;refine c.out.mono ?_;rintro e l⟨rfl,f⟩;have k:=qQ f;clear f c;go_wp2;go_ret2;exact⟨rfl,k.out⟩
include nap in
theorem qKe(h:ju At w0 gd gl gx gs r seed S L chs D E w)(s:Tw)(j:s.size<=maxLen)(a b:Int)(d:yP s a b≠0):Calls prog 21 #[ptr gs,s,a,b] w (X3 (.tuple #[.slice none 0 0,.int .i64 2]) w):=by
 have c:=Qh nap h.cells.1 s j a b
 have g:yP s a b=2:=by
  unfold yP at d ⊢;split at d
  ·exact absurd rfl d
  ·rename_i q;rw[qZ q]
 rw[g]at c;have c:=qQ c;clear h j d g;go_enter func21,ntmps21;go_wp2_with fail;refine c.out.mono ?_;rintro e l⟨rfl,f⟩;have k:=qQ f;clear f c;go_wp2;go_ret2;exact⟨rfl,k.out⟩
theorem Ql{s:Tw}{a b:Int}(h:yP s a b=0):stS s=true/\0<=a/\1<=b:=by
 unfold yP at h;split at h
 ·assumption
 ·exact absurd h (by decide)
theorem lF.later{P:List jT}{m:Nat}{w1 w':World}{e:Ending}(h:lF At w0 gd gl gx gs r seed S L chs D P m E w1 e w')(j:jE E w w1)(l:w.1.size<=w1.1.size):lF At w0 gd gl gx gs r seed S L chs D P m E w e w':=by
 obtain⟨A,c,k,a,b,d,f,g⟩:=h;exact⟨A,c,k,a,b,lV d l,f,j.trans g⟩
include api nap cap
theorem Ji(h:ju At w0 gd gl gx gs r seed S L chs D E w)(O:D.count<=800000000)(z:(jP 0 chs).length<=100)(s:Tw)(m:s.size<=maxLen)(a b:Int)(o:(Lit.int .i64 a).wf=true)(I:(Lit.int .i64 b).wf=true)(l:yP s a b=0):
  Calls prog 13 #[ptr gs,s,a,b] w (lF At w0 gd gl gx gs r seed S L chs D (kV s a (a+b-1) (ja (jP 0 chs))) (S.T.length+2*(vf S (kX seed s.data.toList) a (di a b)).length) E w):=by
 have d:=Qh nap h.cells.1 s m a b;rw[l]at d;obtain⟨-,M,N⟩:=Ql l;have Q:=bounds_i64 o;have R:=bounds_i64 I;have C:=qKa h.rb.whole s M N;have G:kV s a (min a 1073741824+min b 1073741824-1) (ja (jP 0 chs))=kV s a (a+b-1) (ja (jP 0 chs)):=C;have g:=qQ (fun W (j:Below w.1.size w W)=>Ja api nap cap (h.below api j) O z s m a (min a 1073741824+min b 1073741824-1) o (WalkArith.wf_i64 (by omega)));rw[G]at g;have v:=qQ (fun W (j:Below w.1.size w W)=>h.xy j);have d:=qQ d;unfold di;generalize (vf S (kX seed s.data.toList) a (min a 1073741824+min b 1073741824-1)).length=U at*;generalize kV s a (a+b-1) (ja (jP 0 chs))=P at*;clear h m o I l C G z;go_enter func13,ntmps13;go_wp2_with fail;refine d.out.mono ?_;rintro e H⟨rfl,f⟩;have p:=qQ (g.out H f);have t:=qQ (qG (v.out H f) f.size);clear f d v g;go_wp2_with fail;refine p.out.mono ?_;rintro e V y;have J:=qQ (y.later t.out.1 t.out.2);obtain⟨A,c,k,-,rfl,-⟩:=y;clear p;go_wp2;go_ret2;exact J.out
theorem DO(h:ju At w0 gd gl gx gs r seed S L chs D E w)(hc:D.count<=800000000)(j:(jP 0 chs).length<=100)(s:Tw)(I:s.size<=maxLen)(a b:Int)(J:(Lit.int .i64 a).wf=true)(V:(Lit.int .i64 b).wf=true)(C:yP s a b=0):
  Calls prog 21 #[ptr gs,s,a,.int .i64 b] w (lF At w0 gd gl gx gs r seed S L chs D (kV s (a-b+1) a (ja (jP 0 chs))).reverse (S.T.length+2*(vf S (kX seed s.data.toList) (a-b+1) a).length) E w):=by
 have l:=Qh nap h.cells.1 s I a b;rw[C]at l;obtain⟨-,ha,d⟩:=Ql C;have ba:=bounds_i64 J;have bb:=bounds_i64 V;have ab:=h.base.size
 have aa:(kV s (a-b+1) a (ja (jP 0 chs))).length<=800:=by
  have h1:=lD (jP 0 chs) h.rb.whole;have h2:(kV s (a-b+1) a (ja (jP 0 chs))).length<=(ja (jP 0 chs)).length:=qR (List.length_filter_le _ _) (List.length_filter_le _ _);omega
 have M:=qQ (fun W (z:Below w.1.size w W)=>Ja api nap cap (h.below api z) hc j s I (a-b+1) a (WalkArith.wf_i64 (by omega)) J);have O:=qQ (fun W (z:Below w.1.size w W)=>h.xy z);have Y:=qQ h.lt;have l:=qQ l;generalize (vf S (kX seed s.data.toList) (a-b+1) a).length=rl at*;generalize kV s (a-b+1) a (ja (jP 0 chs))=P at*;clear h I J V C j;go_enter func21,ntmps21;go_wp2_with fail;refine l.out.mono ?_;rintro e R⟨rfl,p⟩;have N:=qQ (M.out R p);have o:=qQ (qG (O.out R p) p.size);clear p l O M;go_wp2_with fail;refine N.out.mono ?_;rintro e w3⟨A,c,k,hk,rfl,f,g,m⟩;have v:=qQ (qKD f (by omega));have t:=qQ (qG f (qG g m));obtain⟨n,j⟩:∃n,n=P.length:=⟨_,rfl⟩
 have Z:=qQ j;rw[<-j]at v t ⊢;clear f g m N j aa;go_wp2_with fail;refine v.out.mono ?_;rintro e U⟨rfl,G,H⟩;obtain⟨f,g,m⟩:=t.out;have y:=g.xL api (E':=jL (.slice A n c)++E) H (fun b d=>⟨qW _ d,by have:=(f.lt b (jt.1 d)).1;have:=o.out.2;omega⟩) (fun b d=>qX d)
 have Q:jE E w U:=(o.out.1.trans m).trans (jE.xP H (fun b d=>⟨g.lt b (qJ _ d),fun hm=>by
  have h5:=(f.lt b (jt.1 hm)).1;have h6:=Y.out b d;have h7:=o.out.2;omega⟩))
 have X:Hid (lF At w0 gd gl gx gs r seed S L chs D P.reverse (S.T.length+2*rl) E w (.returned (.tuple #[.slice A n c,.int .i64 0])) U):=qQ (by
  have e1:n=P.reverse.length:=by rw[List.length_reverse];exact Z.out
  rw[e1]at G y ⊢;exact⟨A,c,k,hk,rfl,lV G o.out.2,y,Q⟩)
 clear G H f g m y Q v t;go_wp2;go_ret2;exact X.out
omit api cap in
theorem qKi(h:ju At w0 gd gl gx gs r seed S L chs D E w)(s:Tw)(d:s.size<=maxLen)(c:stS s=false):Calls prog 20 #[ptr gs,s] w (X3 (.tuple #[.int .i64 (-1),.int .i64 2]) w):=by
 have g:=qQ (mF h.cells.1);have a:=nap.stream s w d;rw[c]at a;have a:=qQ a;clear h d c;go_enter func20,ntmps20;go_wp2_with fail;refine X5 g.out ?_;go_wp2_with fail;refine a.out.mono ?_;rintro e j⟨rfl,b⟩;have f:=qQ b;clear b a;go_wp2;go_ret2;exact⟨rfl,f.out⟩
theorem DP(h:ju At w0 gd gl gx gs r seed S L chs D E w)(v:D.count<=700000000)(m:(jP 0 chs).length<=100)(s:Tw)(b:s.size<=maxLen)(o:stS s=true):Calls prog 20 #[ptr gs,s] w fun e w'=>∃k,k<=70000/\e=.returned (.tuple #[.int .i64 (uN s (ja (jP 0 chs))),.int .i64 0])/\ju At w0 gd gl gx gs r seed S L chs { D with count:=D.count+k } E w'/\jE E w w':=by
 have t:=qQ (mF h.cells.1);have a:=nap.stream s w b;rw[o]at a;have a:=qQ a;have d:=qQ (fun W (l:Below w.1.size w W)=>qG (DI api nap cap (h.below api l) v m s b) (h.xy l));generalize uN s (ja (jP 0 chs))=lt at*;clear h b o m;go_enter func20,ntmps20;go_wp2_with fail;refine X5 t.out ?_;go_wp2_with fail;refine a.out.mono ?_;rintro e z⟨rfl,g⟩;have f:=qQ (d.out z g);clear g a d;go_wp2_with fail;refine f.out.1.mono ?_;rintro e A⟨k,y,rfl,j,p⟩;have c:=qQ (qG j (f.out.2.trans p));clear j p;go_wp2;go_ret2;exact⟨k,y,rfl,c.out.1,c.out.2⟩
end
end
section
open Go.RowKit Go.Shelf
attribute [local go_sem] cq
def exA: jj:=⟨⟨#[97]⟩,⟨#[]⟩,0⟩
def exB: jj:=⟨⟨#[98]⟩,⟨#[]⟩,0⟩
def ve: Tw:=⟨#[115]⟩
def nO: List jT:=[⟨ve,0,exA⟩,⟨ve,1,exB⟩]
def fP: List jT:=[⟨ve,0,exA⟩,⟨ve,1,exB⟩,⟨ve,2,exA⟩]
theorem Jo: bC exA:=⟨by decide,by decide,by decide⟩
theorem qKo: bC exB:=⟨by decide,by decide,by decide⟩
def vl(At:jR)(w0:World)(gd gl gx gs:Nat)(T:List jT)(n u cn:Nat)(E:List Nat)(w:World):Prop :=
 ∃S L chs D,ju At w0 gd gl gx gs 0 0 S L chs D E w/\ja (jP 0 chs)=T/\(jP 0 chs).length<=n/\D.cap=26000/\jM D.l<=u/\chs.length<=n/\D.count<=cn
section
variable {At:jR}(api:jS At)(nap:jw)(cap:vR)(rapi:Qf At){w0 w w':World}{gd gl gx gs n u cn:Nat}{T:List jT}{E B:List Nat}
theorem vl.more(api:jS At)(h:vl At w0 gd gl gx gs T n u cn E w)(f:Below w.1.size w w')(d:∀b∈B,w.1.size<=b/\b<w'.1.size):vl At w0 gd gl gx gs T n u cn (B++E) w':=by
 obtain⟨S,L,chs,D,a,c⟩:=h;exact⟨S,L,chs,D,a.more api f d,c⟩
theorem vl.base(h:vl At w0 gd gl gx gs T n u cn E w):Below w0.1.size w0 w:=by
 obtain⟨S,L,chs,D,a,b⟩:=h;exact a.base
include api nap cap
theorem DR(h:vl At w0 gd gl gx gs T n u cn E w)(R:n<=90)(U:u<=10000)(Q:cn<=1000000)(s:Tw)(y:s.size<=100000)(a:Int)(l:List jj){A:Option Addr}{m c:Nat}(C:∀W,jE E w W->vC W (.slice A m c) l)(t:m=l.length)(p:l.length<=300)(o:∀x∈l,bC x)(v:uc s a l T=0):
  Calls prog 18 #[ptr gs,s,a,.slice A m c] w fun e w'=>e=.returned (.tuple #[.int .i64 ((ofT s T).length:Nat),.int .i64 0])/\vl At w0 gd gl gx gs (T++yc s ((ofT s T).length:Nat) l) (n+1) (u+2024) (cn+70000) E w'/\jE E w w':=by
 obtain⟨S,L,chs,D,g,rfl,M,j,N,O,P⟩:=h;refine(Je api nap cap g (by omega) (by omega) s y a l (fun W _ b=>C W b) t p o).mono ?_;rintro e w'⟨k,b,(⟨z,-,G,-⟩|⟨rfl,-,-,S',L',chs',D',d,f,wr⟩)⟩
 ·exfalso;rcases G with⟨H,I,-⟩|⟨-,-,J⟩
  ·exact I (H.trans v)
  ·rcases J with q|q
   ·omega
   ·omega
 ·exact⟨rfl,⟨S',L',chs',D',d,wr.all,by rw[wr.len];omega,wr.cap.trans j,by have:=wr.used;simp only at this;omega,by have:=wr.jU;omega,by have:=wr.count;simp only at this;omega⟩,f⟩
theorem qKw(h:vl At w0 gd gl gx gs T n u cn E w)(Q:n<=90)(P:cn<=1000000)(s:Tw)(H:s.size<=100000)(a:Int)(l:List jj){A:Option Addr}{m c:Nat}(I:∀W,jE E w W->vC W (.slice A m c) l)(G:m=l.length)(C:l.length<=300)(y:∀x∈l,bC x)(d:uc s a l T≠0):
  Calls prog 18 #[ptr gs,s,a,.slice A m c] w fun e w'=>e=.returned (.tuple #[.int .i64 0,.int .i64 (uc s a l T)])/\vl At w0 gd gl gx gs T n u (cn+70000) E w'/\jE E w w':=by
 obtain⟨S,L,chs,D,j,rfl,o,p,t,v,O⟩:=h;refine(Je api nap cap j (by omega) (by omega) s H a l (fun W _ b=>I W b) G C y).mono ?_;rintro e w'⟨k,b,(⟨z,rfl,J,f,g⟩|⟨-,q,-⟩)⟩
 ·rcases J with⟨M,-,-⟩|⟨-,N,-⟩
  ·rw[M];exact⟨rfl,⟨S,L,chs,_,f,rfl,o,p,t,v,by show D.count+k<=_;omega⟩,g⟩
  ·exact absurd N d
 ·exact absurd q d
theorem qVQ(h:vl At w0 gd gl gx gs T n u cn E w)(v:n<=90)(p:cn<=1000000)(s:Tw)(m:s.size<=maxLen)(l:stS s=true):
  Calls prog 20 #[ptr gs,s] w fun e w'=>e=.returned (.tuple #[.int .i64 (uN s T),.int .i64 0])/\vl At w0 gd gl gx gs T n u (cn+70000) E w'/\jE E w w':=by
 obtain⟨S,L,chs,D,c,rfl,d,f,g,j,o⟩:=h;refine(DP api nap cap c (by omega) (by omega) s m l).mono ?_;rintro e w'⟨k,t,rfl,a,b⟩;exact⟨rfl,⟨S,L,chs,_,a,rfl,d,f,g,j,by show D.count+k<=_;omega⟩,b⟩
theorem qVX(h:vl At w0 gd gl gx gs T n u cn E w)(R:n<=90)(O:cn<=1000000)(s:Tw)(z:s.size<=maxLen)(a b:Int)(G:(Lit.int .i64 a).wf=true)(H:(Lit.int .i64 b).wf=true)(y:yP s a b=0){P:List jT}(t:kV s a (a+b-1) T=P):
  Calls prog 13 #[ptr gs,s,.int .i64 a,.int .i64 b] w fun e w'=>∃A c,e=.returned (.tuple #[.slice A P.length c,.int .i64 0])/\kT w' w.1.size (.slice A P.length c) P/\vl At w0 gd gl gx gs T n u (cn+2000) (jL (.slice A P.length c)++E) w'/\jE E w w':=by
 obtain⟨S,L,chs,D,d,rfl,l,m,o,p,M⟩:=h;subst t;have N:=d.sx.ok.xR
 have v:∀a b,(vf S (kX 0 s.data.toList) a b).length<=800:=fun a b=>by
  have I:=nM 0 (jP 0 chs) d.rb.whole;have J:(vf S (kX 0 s.data.toList) a b).length<=(uE 0 (jP 0 chs)).length:=lA (nN d.sx.ok _ a b) (fun x C=>(d.rb.has x).1 ((mI d.sx.ok _ a b x).1 C).1);omega
 refine(Ji api nap cap d (by omega) (by omega) s z a b G H y).mono ?_;rintro e w'⟨A,c,k,Q,rfl,f,g,j⟩;exact⟨A,c,rfl,f,⟨S,L,chs,_,g,rfl,l,m,o,p,by have:=v a (di a b);show D.count+k<=_;omega⟩,j⟩
theorem qVZ(h:vl At w0 gd gl gx gs T n u cn E w)(R:n<=90)(O:cn<=1000000)(s:Tw)(z:s.size<=maxLen)(a b:Int)(G:(Lit.int .i64 a).wf=true)(H:(Lit.int .i64 b).wf=true)(y:yP s a b=0){P:List jT}(t:(kV s (a-b+1) a T).reverse=P):
  Calls prog 21 #[ptr gs,s,.int .i64 a,.int .i64 b] w fun e w'=>∃A c,e=.returned (.tuple #[.slice A P.length c,.int .i64 0])/\kT w' w.1.size (.slice A P.length c) P/\vl At w0 gd gl gx gs T n u (cn+2000) (jL (.slice A P.length c)++E) w'/\jE E w w':=by
 obtain⟨S,L,chs,D,d,rfl,l,m,o,p,M⟩:=h;subst t;have N:=d.sx.ok.xR
 have v:∀a b,(vf S (kX 0 s.data.toList) a b).length<=800:=fun a b=>by
  have I:=nM 0 (jP 0 chs) d.rb.whole;have J:(vf S (kX 0 s.data.toList) a b).length<=(uE 0 (jP 0 chs)).length:=lA (nN d.sx.ok _ a b) (fun x C=>(d.rb.has x).1 ((mI d.sx.ok _ a b x).1 C).1);omega
 refine(DO api nap cap d (by omega) (by omega) s z a b G H y).mono ?_;rintro e w'⟨A,c,k,Q,rfl,f,g,j⟩;exact⟨A,c,rfl,f,⟨S,L,chs,_,g,rfl,l,m,o,p,by have:=v (a-b+1) a;show D.count+k<=_;omega⟩,j⟩
end
theorem qVJ: uc ve (-1) [exA,exB] []=0:=by decide +kernel
theorem DT: uc ve (-1) [exA] nO=80:=by decide +kernel
theorem qVK: uc ve 1 [exA] nO=0:=by decide +kernel
theorem qVV: (ofT ve []).length=0/\(ofT ve nO).length=2:=⟨rfl,by decide +kernel⟩
theorem D7: uN ve fP=2/\stS ve=true:=by decide +kernel
theorem qVY: kV ve 1 (1+9-1) fP=[⟨ve,1,exB⟩,⟨ve,2,exA⟩]:=rfl
theorem qVU: (kV ve (1-9+1) 1 fP).reverse=[⟨ve,1,exB⟩,⟨ve,0,exA⟩]:=rfl
theorem D8: yP ve 1 9=0:=by decide +kernel
theorem qVG(w:World){W:World}(b:jE [w.1.size] (w.alloc (.cells #[.string ⟨#[97]⟩,.string ⟨#[]⟩,.float .f64 0,.string ⟨#[98]⟩,.string ⟨#[]⟩,.float .f64 0] 64)) W):
  vC W (.slice (some ⟨w.1.size,0,none⟩) 2 2) [exA,exB]/\vC W (.slice (some ⟨w.1.size,0,none⟩) 1 2) [exA]:=by
 have B:=b.xW (jF.new w 64 #[.string ⟨#[97]⟩,.string ⟨#[]⟩,.float .f64 0,.string ⟨#[98]⟩,.string ⟨#[]⟩,.float .f64 0]) qC;refine⟨qY ⟨by decide,w.1.size,0,2,rfl,by decide,B.lt,fun i x a=>?_⟩,qY ⟨by decide,w.1.size,0,2,rfl,by decide,B.lt,fun i x a=>?_⟩⟩
 ·match i,a with
  | 0,a=>obtain rfl:=qb a;exact⟨B.cell 0,B.cell 1,B.cell 2⟩
  | 1,a=>obtain rfl:=qb a;exact⟨B.cell 3,B.cell 4,B.cell 5⟩
 ·match i,a with
  | 0,a=>obtain rfl:=qb a;exact⟨B.cell 0,B.cell 1,B.cell 2⟩
end
section
open Go.RowKit Go.Shelf
section
variable {At:jR}(api:jS At)(nap:jw)(iap:uy At){w0 w w':World}{gd gl gx r seed:Nat}{S:IxS}{L:jq}{D D':jD}{E:List Nat}
include api
theorem qVW(h:DS At w0 gd D E w)(ok:WfP D)(V:(jk D jh).2≠0):Calls prog 132 #[ptr gd] w fun e w'=>∃(x0 x1:Int) (x2:Nat) (A:Option Addr) (n c:Nat),e=.returned (.tuple #[kc x0 x1 x2 (.slice A n c),.int .i64 ((jk D jh).2:Nat)])/\DS At w0 gd D E w'/\jE E w w':=by
 have hz:=VP ok jh;have Y:=ok.cap;have o:=(qU w.1.size w).alloc (qK _) mzO;have a:=jF.new w 47 #[.int .i64 0,.int .i64 0,.int .u64 0,.slice none 0 0]
 have j:DS At w0 gd D (w.1.size::E) (w.alloc mzO):=h.more api o (B:=[w.1.size]) (fun b X=>by
  rw[qH.1 X];exact⟨qK _,a.lt⟩)
 have m:=jE.xA o h.lt;have p:=h.lt;have s:=h.kept.size;obtain⟨g,Z⟩:∃g,w.1.size=g:=⟨_,rfl⟩
 rw[Z]at j a p s;obtain⟨k,C⟩:∃k,w.alloc mzO=k:=⟨_,rfl⟩
 rw[C]at j a m;unfold mzO at C;have G:Calls prog 129 #[ptr gd,.string ⟨#[109,97,112]⟩] k (X0 (.tuple #[.int .i64 ((jk D jh).1:Nat),err (jk D jh).2]) k):=j.size api ok jh (by decide)
 have f:=qQ (qG a (qG m (qG p (qG s j))));have t:(((jk D jh).2:Int) != 0)=true:=by simp;omega
 generalize (jk D jh).1=z at*;generalize (jk D jh).2=y at*;have I:=qQ G;have J:=a.cell 0;have M:=a.cell 1;have N:=a.cell 2;have O:=a.cell 3;have f0:=a.frozen 0;have f1:=a.frozen 1;have f2:=a.frozen 2;have f3:=a.frozen 3;simp only[List.getElem?_toArray]at J M N O;clear G hz V h ok o j m p s a Y;go_enter func132,ntmps132;go_wp2_with fail;refine X5 I.out ?_;go_wp2;have d:=qZS f.out.1 (.int .i64 0) (.int .i64 0) (.int .u64 0) (.slice none 0 0);have l:=qZ0 api f.out.2.2.1 f.out.2.2.2.1 f.out.2.2.2.2 f.out.2.1 (qU _ _) (.int .i64 0) (.int .i64 0) (.int .u64 0) (.slice none 0 0);unfold dD at d l;obtain⟨H,aa⟩:∃H,H=(((k.setCell ⟨g,0,none⟩ (.int .i64 0)).setCell ⟨g,1,none⟩ (.int .i64 0)).setCell ⟨g,2,none⟩ (.int .u64 0)).setCell ⟨g,3,none⟩ (.slice none 0 0):=⟨_,rfl⟩
 rw[<-aa]at d l ⊢;have P:=d.cell 0;have Q:=d.cell 1;have R:=d.cell 2;have U:=d.cell 3;exact bodyPost_ret (v:=.tuple #[kc 0 0 0 (.slice none 0 0),y]) (by simp[results,Tryz.results132,go_sem,P,Q,R,U];rfl) rfl ⟨0,0,0,none,0,0,rfl,l.1,l.2⟩
theorem qVA(h:gE At w0 gd gl L D E w)(ok:WfP D)(a:(jk D jh).2≠0)(seed r:Nat):
  Calls prog 81 #[ptr gd,ptr gl,.int .u64 (seed:Nat),.float .f64 r] w fun e w'=>e=.returned (.tuple #[.pointer none,.bool false])/\gE At w0 gd gl L D E w'/\jE E w w':=by
 have s:Hid (Calls prog 132 #[ptr gd] w fun e w'=>∃(d f:Int) (g:Nat) (A:Option Addr) (n c:Nat),e=.returned (.tuple #[.agg #[d,f,.int .u64 (g:Nat),.slice A n c],.int .i64 ((jk D jh).2:Nat)])/\gE At w0 gd gl L D E w'/\jE E w w'):=qQ ((qVW api h.1 ok a).mono (by
  rintro e w'⟨d,f,g,A,n,c,rfl,z,t⟩;exact⟨d,f,g,A,n,c,rfl,⟨z,t.xW h.2.1 qC,h.2.2.1,h.2.2.2⟩,t.less (fun b C=>qF _ C)⟩))
 have G:=a;clear h a;generalize (jk D jh).2=p at*;go_enter func81,ntmps81;go_wp2_with fail;refine s.out.mono ?_;rintro e w1⟨d,f,g,A,n,c,rfl,a,v⟩;have l:=(qU w1.1.size w1).alloc (qK _) (.cells #[d,f,.int .u64 (g:Nat),.slice A n c] 47);have k:=a.below api l;have o:=v.trans (jE.xA l (fun x m=>a.lt x (qF _ m)));obtain⟨y,H⟩:∃y,w1.alloc (.cells #[d,f,.int .u64 (g:Nat),.slice A n c] 47)=y:=⟨_,rfl⟩
 rw[H]at k o;have j:=qQ (qG k o);have I:¬(p:Int)=0:=by omega
 have J:((p:Int)==0)=false:=qg.2 I;have M:((p:Int) != 0)=true:=by rw[bne,J];rfl
 clear k o l a v s G;go_wp2;go_quiet (fail);go_wp2;go_ret2;exact⟨rfl,j.out.1.below api (uK (qU _ _) _),j.out.2.trans (jE.xA (uK (qU _ _) _) (fun x m=>j.out.1.lt x (qF _ m)))⟩
theorem qVB{c:Ctx}(g:c.m=ptr gl)(h:TSt At c gl gd L D w)(d:L.chunks=0)(f:yG D L=0):Calls prog 43 #[ptr gl,.int .i64 0] w (vY At c gl gd (.tuple #[.string ByteArray.empty,.int .i64 0,.int .i64 0,.int .i64 4]) L D):=by
 have j:=qQ (oG api g h);rw[f]at j;have v:∀k t w,(Builtin.max_ k t #[.int .i64 0,.int .i64 0]).run prog w=.ok (.int .i64 0) w:=fun k t w=>by rw[run_max_int2];rfl
 have o:=qQ d;clear g h f d;go_enter func43,ntmps43;go_wp2;go_step3;go_wp2_with fail;refine KG j.out fun w1 b=>?_;have l:=qQ b;clear b;go_wp2;go_step3;go_wp2;go_loopw [8] (fun i wr=>i=.int .i64 0/\TSt At c gl gd L D wr) (fun i _=>0)
 case atStart=>exact⟨rfl,l.out⟩
 case round =>
  obtain⟨rfl,a⟩:=hrel;have s:=a.cells.2.2.2.1;rw[o.out]at s;have p:=qQ a;have y:decide ((0:Int)<((0:Nat):Int))=false:=qA (by omega);clear a;go_wp2;refine bodyPost_ret (SW rfl _ _ _) rfl ?_;exact⟨rfl,p.out⟩
theorem qVC(h:je At w0 gd gl gx r S L [] D E w):Calls prog 43 #[ptr gl,.int .i64 0] w fun e w'=>e=.returned (.tuple #[.string ByteArray.empty,.int .i64 0,.int .i64 0,.int .i64 4])/\je At w0 gd gl gx r S L [] D E w'/\jE E w w':=by
 refine(h.ix.log api h.log h.xF h.low (fun c g a=>qVB api g a (by have:=h.gl.xS;simpa using this) (nG h.xI h.gl))).mono ?_;rintro e w'⟨rfl,d,b,f⟩;exact⟨rfl,⟨d,b,h.xF,h.low,h.ok,h.dk,h.xI,h.gl⟩,f⟩
theorem qVD(h:je At w0 gd gl gx r S L [] D E w)(n:Int)(A:Option Addr)(k cp:Nat)(seed:Nat):
  Calls prog 84 #[ptr gx,ptr gl,.agg #[n,.int .i64 0,.int .u64 (seed:Nat),.slice A k cp]] w fun e w'=>e=.returned (.int .i64 0)/\je At w0 gd gl gx r S L [] D E w'/\jE E w w':=by
 have d:=(qU w.1.size w).alloc (qK _) (.cells #[n,.int .i64 0,.int .u64 (seed:Nat),.slice A k cp] 47);have b:=jF.new w 47 #[n,.int .i64 0,.int .u64 (seed:Nat),.slice A k cp];have c:=h.more api d (B:=[w.1.size]) (fun x a=>by rw[qH.1 a];exact⟨qK _,b.lt⟩);have f:=(jE.xA d (fun x a=>h.lt x (qF _ a)):jE E w _)
 obtain⟨w1,s⟩:∃w1,w.alloc (.cells #[n,.int .i64 0,.int .u64 (seed:Nat),.slice A k cp] 47)=w1:=⟨_,rfl⟩
 rw[s]at b c f;have v:=b.cell 1;have j:=qQ (qVC api c);have o:=qQ f;clear d b c f h;go_enter func84,ntmps84;go_wp2;go_loopw [7] (fun p wr=>p=.int .i64 0/\wr=w1) (fun p _=>0)
 case atStart=>exact⟨rfl,rfl⟩
 case round =>
  obtain⟨rfl,rfl⟩:=hrel;go_wp2_with fail;refine j.out.mono ?_;rintro e t⟨rfl,l,m⟩;have g:=qQ (qG (l.less (fun x a=>qJ _ a):je At w0 gd gl gx r S L [] D E t) (o.out.trans (m.less (fun x a=>qJ _ a))));clear l m j;go_wp2;go_ret;exact⟨rfl,g.out.1,g.out.2⟩
include nap iap in
theorem qVE(h:gp At w0 gd gl L [] D E w)(ok:WfP D)(ax:D.count<=800000000)(aj:jN D.l jh=none)(hs:seed<18446744073709551616):
  Calls prog 39 #[ptr gd,ptr gl,.int .u64 (seed:Nat),.float .f64 r] w fun e w'=>∃gx D',e=.returned (.tuple #[ptr gx,.bool true,.int .i64 0])/\Js At w0 gd gl gx r seed ⟨bo seed,[],[]⟩ L [] D D' E w w'/\jN D'.l jh=none:=by
 have ak:=h.xI.many;have am:=h.fl.up.down
 have al:(jk D jh).2≠0:=by
  unfold jk;rw[qZ (by simp[am]),dP,aj];decide
 have HR:=qQ (qKh api nap h.st ok (by omega) (by rw[h.gl.xS];exact ak));have aa:=qQ (fun W (g:gE At w0 gd gl L D E W)=>qVA api g ok al seed r);have U:=qQ (fun(W:World) (g:gE At w0 gd gl L D E W)=>qKl api nap (⟨g,h.fl,h.xI,h.gl⟩:gp At w0 gd gl L [] D E W) (by omega) seed r hs)
 have ad:=qQ (fun(gx:Nat) (f:jD) (W:World) (N:f.count<=D.count+161) (g:dI At w0 gd gl gx r ⟨bo seed,[],[]⟩ L [] f E W) (w1:World) (A:Option Addr) (c:Nat) (av:vw w1 W.1.size (.slice A 0 c) []) (b1:Below W.1.size W w1)=>(by
  obtain⟨G,hG,aq⟩:=av.keep;have t:=g.more api b1 (B:=G) (fun b M=>hG b M);have o:=(qU w1.1.size w1).alloc (qK _) (.cells #[.int .i64 0,.int .i64 0,.int .u64 (seed:Nat),.slice A 0 c] 47);have ae:=jF.new w1 47 #[.int .i64 0,.int .i64 0,.int .u64 (seed:Nat),.slice A 0 c];have I:=t.more api o (B:=[w1.1.size]) (fun x a=>by rw[qH.1 a];exact⟨qK _,ae.lt⟩);have ar:=aq.step (jE.xA o (fun x a=>(hG x a).2));have ap:jE E W (w1.alloc (.cells #[.int .i64 0,.int .i64 0,.int .u64 (seed:Nat),.slice A 0 c] 47)):=(jE.xA b1 (fun x a=>g.ix.lt x (qF _ a))).trans (jE.xA o (fun x a=>t.ix.lt x (qF _ (qJ _ a))));refine(qKz iap I (n:=0) (c:=0) (d:=seed) (R:=[]) (G:=G) (fun b M=>qF _ (qJ _ (qW _ M))) ar rfl rfl (qI _)).mono ?_;rintro e p⟨D3,rfl,v,C,P,hu,au⟩;have ao:=C.xW ae (qW _ qC);refine⟨rfl,ao, ?_⟩;refine(qVD api v 0 A 0 c seed).mono ?_;rintro e j⟨rfl,h4,k4⟩;exact⟨rfl,_,h4.less (fun x a=>qJ _ (qJ _ a)),ap.trans ((C.less (fun x a=>qJ _ (qJ _ a))).trans (k4.less (fun x a=>qJ _ (qJ _ a)))),P.cap,P.xB,Nat.le_of_eq P.count,hu,au⟩ :
  Calls prog 83 #[ptr gd,.agg #[.int .i64 0,.int .i64 0,.int .u64 (seed:Nat),.slice A 0 c]] (w1.alloc (.cells #[.int .i64 0,.int .i64 0,.int .u64 (seed:Nat),.slice A 0 c] 47)) fun e p=>e=.returned (.int .i64 0) /\
   jF p w1.1.size 47 #[.int .i64 0,.int .i64 0,.int .u64 (seed:Nat),.slice A 0 c] /\
   Calls prog 84 #[ptr gx,ptr gl,.agg #[.int .i64 0,.int .i64 0,.int .u64 (seed:Nat),.slice A 0 c]] p fun e j=>e=.returned (.int .i64 0)/\∃D',je At w0 gd gl gx r ⟨bo seed,[],[]⟩ L [] D' E j/\jE E W j/\D'.cap=f.cap/\D'.xB=f.xB/\D'.count<=f.count/\jM D'.l<=jM f.l/\jN D'.l jh=jN f.l jh))
 have H:=qQ (fun(gx:Nat) (f:jD) (W:World) (g:dI At w0 gd gl gx r ⟨bo seed,[],[]⟩ L [] f E W)=>qKm api g);unfold ch kc at H;have af:(bo seed).next=0:=rfl;have ag:(bo seed).check=0:=rfl;have o:(bo seed).seed=seed:=rfl;have ah:(bo seed).lv=[]:=rfl;simp only[af,ag,o,ah,List.length_nil]at H;clear h ak af ag o ah am al aj;go_enter func39,ntmps39;go_wp2_with fail;refine HR.out.mono ?_;rintro e w1⟨k,hk,rfl,t,k1⟩;have J:¬(k:Int)=1:=by omega
 have O:((k:Int)==1)=false:=qg.2 J;have Z:=qQ (aa.out w1 t);have X:=qQ k1;clear t k1 HR hk aa;go_wp2_with fail;refine Z.out.mono ?_;rintro e w2⟨rfl,I,k2⟩;have Q:=qQ (U.out w2 I);have Y:=qQ (X.out.trans k2);clear I k2 Z U J O X;go_wp2_with fail;refine Q.out.mono ?_;rintro e p⟨gx,f,rfl,v,C,e1,e2,e3,e4,e5⟩;have N:f.count<=D.count+161:=by omega
 have ab:=qQ (H.out gx f p v);have ac:=qQ (ad.out gx f p N v);have an:=qQ (qG (Y.out.trans C) (qG e1 (qG e2 (qG e3 (qG e4 e5)))));clear v C e1 e2 e3 e4 e5 N Q H ad Y;go_wp2_with fail;refine ab.out.mono ?_;rintro e j⟨A,c,rfl,l4,b4⟩;have s:=ac.out j A c l4 b4;have m:=jF.new j 47 #[.int .i64 0,.int .i64 0,.int .u64 (seed:Nat),.slice A 0 c];obtain⟨w5,aw⟩:∃w5,j.alloc (.cells #[.int .i64 0,.int .i64 0,.int .u64 (seed:Nat),.slice A 0 c] 47)=w5:=⟨_,rfl⟩
 rw[aw]at s m;have s:=qQ s;have z0:=m.cell 0;have z1:=m.cell 1;have z2:=m.cell 2;have z3:=m.cell 3;clear l4 b4 ab ac m;go_wp2_with fail;refine s.out.mono ?_;rintro e w6⟨rfl,z,ai⟩;have V:=qQ ai;have y0:=z.cell 0;have y1:=z.cell 1;have y2:=z.cell 2;have y3:=z.cell 3;clear ai z s z0 z1 z2 z3;go_wp2_with fail;refine V.out.mono ?_;rintro e w7⟨rfl,D',p1,p2,p3,p4,p5,p6,p7⟩
 have HP:Hid (Js At w0 gd gl gx r seed ⟨bo seed,[],[]⟩ L [] D D' E w w7/\jN D'.l jh=none):=qQ (by
  obtain⟨J,O,q3,q4,q5,q6⟩:=an.out;exact⟨⟨p1,J.trans p2,qJo (fun x a=>by cases a) rfl rfl rfl (fun y=>⟨fun k=>(by cases k),fun⟨x,a,_⟩=>(by cases a)⟩),p3.trans q3,p4.trans O,by show _<=D.count+400+200*0;omega,qR p6 q5⟩,p7.trans q6⟩)
 clear p1 p2 p3 p4 p5 p6 p7 V y0 y1 y2 y3;go_wp2;go_ret3;exact⟨gx,D',rfl,HP.out.1,HP.out.2⟩
end
section
variable {At:jR}(api:jS At)(nap:jw)(iap:uy At)(cap:vR){w0 w:World}{gd gl gx gs r seed:Nat}{L L':jq}{D D':jD}{E:List Nat}
include api nap iap cap
theorem qVF(t:DS At w0 gd D E w)(O:fO (bI 0) D)(P:kj D [])(V:jN D.l jh=none)(X:seed<18446744073709551616)(hr:r<18446744073709551616)(R:D.count<=700000000):
  Calls prog 17 #[ptr gd,.int .u64 (seed:Nat),.float .f64 r] w (DC At w0 gd r seed ⟨bo seed,[],[]⟩ [] D E w):=by
 have af:=t.kept.size;have z:=t.lt
 have N:=qQ ((qKj (chs:=[]) api nap cap t O P (by omega)).mono (fun e w' (hq:∃gl D',e=.returned (.tuple #[ptr gl,.int .i64 0])/\w.1.size<=gl/\gp At w0 gd gl ⟨D.xB,0,vB [],vB []⟩ [] D' E w'/\jE E w w'/\vj D D'/\D'.count<=D.count+200)=>(show ∃gl D',e=.returned (.tuple #[ptr gl,.int .i64 0])/\gp At w0 gd gl ⟨D.xB,0,vB [],vB []⟩ [] D' E w'/\jE E w w'/\D'.cap=D.cap/\D'.count<=D.count+200/\jM D'.l=jM D.l/\jN D'.l jh=none from by
  obtain⟨gl,D',e1,-,d,hk,H,aa⟩:=hq;refine⟨gl,D',e1,d,hk,H.cap,aa,H.used, ?_⟩;have e:=H.data jh;rw[V]at e;cases q:jN D'.l jh with
  | none=>rfl
  | some f=>rw[q]at e;cases e)))
 have M:Hid (∀W gl L D',gp At w0 gd gl L [] D' E W->jN D'.l jh=none->D'.count<=800000000->Calls prog 39 #[ptr gd,ptr gl,.int .u64 (seed:Nat),.float .f64 r] W fun e w'=>∃gx o,e=.returned (.tuple #[ptr gx,.bool true,.int .i64 0])/\Js At w0 gd gl gx r seed ⟨bo seed,[],[]⟩ L [] D' o E W w'/\jN o.l jh=none):=qQ (fun W gl L D' d m R=>qVE api nap iap d d.fl.up.wf R m X);clear t O P V;go_enter func17,ntmps17;go_wp2_with fail;refine N.out.mono ?_;rintro e w1⟨gl,D1,rfl,d,Z,ab,ae,ag,o1⟩;have J:=qQ (M.out w1 gl _ D1 d o1 (by omega));have v:=qQ Z;clear d o1 Z N M;go_wp2_with fail;refine J.out.mono ?_;rintro e a⟨gx,o,rfl,c,U⟩;have y:=(qU a.1.size a).alloc (qK _) (.cells #[.pointer none,ptr gl,ptr gx,.int .u64 (seed:Nat)] 73);have g:=jF.new a 73 #[.pointer none,ptr gl,ptr gx,.int .u64 (seed:Nat)];have s:=c.sx.more api y (B:=[a.1.size]) (fun x C=>by rw[qH.1 C];exact⟨qK _,g.lt⟩);have ad:w.1.size<=a.1.size:=qR v.out.size c.kept.size;have G:jE E w (a.alloc (.cells #[.pointer none,ptr gl,ptr gx,.int .u64 (seed:Nat)] 73)):=(v.out.trans c.kept).trans (jE.xA y (fun x C=>qS (z x C) ad));obtain⟨k,ac⟩:∃k,a.alloc (.cells #[.pointer none,ptr gl,ptr gx,.int .u64 (seed:Nat)] 73)=k:=⟨_,rfl⟩
 rw[ac]at g s G;have A:jH [a.1.size] k (k.setCell ⟨a.1.size,0,none⟩ (ptr a.1.size)):=(jH.refl _ _).setCell (p:=⟨a.1.size,0,none⟩) (qX qC) _;have Q:=s.xL api (E':=[a.1.size]++E) A (fun b j=>by rw[qH.1 j];exact⟨qW _ qC,by omega⟩) (fun b j=>qX j);have I:=g.put 0 (ptr a.1.size)
 have Y:jE E w (k.setCell ⟨a.1.size,0,none⟩ (ptr a.1.size)):=G.trans (jE.xP A (fun b j=>⟨s.lt b (qF _ (qJ _ j)),fun m=>by
  have q1:=qH.1 m;have q2:=z b j;omega⟩))
 have hF:DC At w0 gd r seed ⟨bo seed,[],[]⟩ [] D E w (.returned (.tuple #[ptr a.1.size,.int .i64 0])) (k.setCell ⟨a.1.size,0,none⟩ (ptr a.1.size)):=by
  refine⟨a.1.size,gl,gx,_,_,o,rfl,⟨Q,I,fun m=>?_,by omega,c.rb,yf.nil,X⟩,Y,qY ⟨U,rfl,rfl⟩,qX rfl,c.cap.trans ab,by have:=c.count;omega,by have:=c.used;omega⟩;have:=z _ m;omega
 have HF:=qQ hF;have f0:=g.frozen 0;have c0:=g.cell 0;clear hF Q I Y A s G y g c U J v;go_wp2;go_ret2;exact HF.out
theorem D9(x:rH)(f:JR x)(w:World):Calls prog 8 #[JP x] w (DD At x w):=by
 have N:=f.m;have k:=(qU w.1.size w).alloc (qK _) (.cells #[.int .u64 (x.d:Nat),.float .f64 x.r,.int .u16 (x.m:Nat)] 27);have a:=jF.new w 27 #[.int .u64 (x.d:Nat),.float .f64 x.r,.int .u16 (x.m:Nat)];obtain⟨w1,Q⟩:∃w1,w.alloc (.cells #[.int .u64 (x.d:Nat),.float .f64 x.r,.int .u16 (x.m:Nat)] 27)=w1:=⟨_,rfl⟩
 rw[Q]at k a;have b:=qQB api w1 (6000+4*x.m) (by omega);have j:=qQ (fun(W:World) gd (c:DS At w1 gd (fj (6000+4*x.m)) [] W)=>qVF (gd:=gd) (r:=x.r) (seed:=x.d) (E:=[]) api nap iap cap c ⟨LG (by omega),List.nodup_nil,(fun n O=>by cases O),(fun x f=>by cases f),qI _⟩ (So _ (by omega)) rfl f.d f.r (by show(0:Nat)<=_;omega));have t:((6000+4*x.m:Nat):Int)=6000+(x.m:Int)*4:=by omega
 rw[t]at b;have b:=qQ b;have I:=qQ k;have J:=qQ a;have C:=a.cell 0;have G:=a.cell 1;have H:=a.cell 2;obtain⟨V,sr,p⟩:=x;simp only at N b j C G H ⊢;clear k a t;go_enter func8,ntmps8;go_wp2_with fail;refine b.out.mono ?_;rintro e X⟨gd,rfl,c⟩;have s:=qQ (j.out X gd c);have g:=J.out.below c.kept;have R:=g.cell 0;have U:=g.cell 1;clear c g j C G H b;go_wp2_with fail;refine s.out.mono ?_;rintro e Y⟨gs,gl,gx,S',L,D',rfl,v,-,z,A,y,o,P⟩;have M:Hid (DD At ⟨V,sr,p⟩ w (.returned (.tuple #[ptr gd,ptr gs,.bool true])) Y):=qQ ⟨w1,gd,gs,gl,gx,S',L,D',I.out,rfl,v,z,by rcases A with q|q<;>exact q,y,by have:(fj (6000+4*p)).count=0:=rfl;rw[this]at o;exact o,by have:jM (fj (6000+4*p)).l=0:=rfl;omega⟩;clear v z A y o P s R U;go_wp2;go_ret3;exact M.out
end
end
section
open Go.RowKit Go.Shelf
attribute [local go_sem] cq
section
variable {At:jR}(api:jS At)(nap:jw)(iap:uy At)(cap:vR)
include api nap iap cap
theorem qVH(w:World):Calls prog 7 #[] w (X3 (.bool true) w):=by
 have ah:=qQ (show Calls prog 8 #[.agg #[.int .u64 0,.float .f64 0,.int .u16 5000]] w fun e w'=>∃a gd gs gl gx,Below w.1.size w a/\e=.returned (.tuple #[ptr gd,ptr gs,.bool true])/\vl At a gd gl gx gs [] 0 0 600 [] w' from(D9 api nap iap cap ⟨0,0,5000⟩ ⟨by decide,by decide,by decide⟩ w).mono (by
  rintro e w'⟨a,gd,gs,gl,gx,S,L,D,t,rfl,h2,z,C,v,y,G⟩;exact⟨a,gd,gs,gl,gx,t,rfl,S,L,[],D,h2,rfl,qI _,v,by omega,qI _,y⟩))
 have Q:=qQ (fun a gd gl gx gs g W (h:vl At a gd gl gx gs [] 0 0 600 [g] W) (l:∀d,jE [g] W d->vC d (.slice (some ⟨g,0,none⟩) 2 2) [exA,exB])=>(show Calls prog 18 #[ptr gs,.string ⟨#[115]⟩,.int .i64 (-1),.slice (some ⟨g,0,none⟩) 2 2] W fun e w'=>e=.returned (.tuple #[.int .i64 0,.int .i64 0])/\vl At a gd gl gx gs nO 1 2024 70600 [g] w'/\jE [g] W w' from
  DR api nap cap h (by decide) (by decide) (by decide) ve (by decide) (-1) [exA,exB] l rfl (by decide) (fun x j=>by
   rcases qL.1 j with rfl|j
   ·exact Jo
   ·rw[qH.1 j];exact qKo) qVJ))
 have R:=qQ (fun a gd gl gx gs g W (h:vl At a gd gl gx gs nO 1 2024 70600 [g] W) (l:∀d,jE [g] W d->vC d (.slice (some ⟨g,0,none⟩) 1 2) [exA])=>(show Calls prog 18 #[ptr gs,.string ⟨#[115]⟩,.int .i64 (-1),.slice (some ⟨g,0,none⟩) 1 2] W fun e w'=>e=.returned (.tuple #[.int .i64 0,.int .i64 80])/\vl At a gd gl gx gs nO 1 2024 140600 [g] w'/\jE [g] W w' from by
  have:=qKw api nap cap h (by decide) (by decide) ve (by decide) (-1) [exA] l rfl (by decide) (fun x j=>by rw[qH.1 j];exact Jo) (by rw[DT];decide);rw[DT]at this;exact this))
 have U:=qQ (fun a gd gl gx gs g W (h:vl At a gd gl gx gs nO 1 2024 140600 [g] W) (l:∀d,jE [g] W d->vC d (.slice (some ⟨g,0,none⟩) 1 2) [exA])=>(show Calls prog 18 #[ptr gs,.string ⟨#[115]⟩,.int .i64 1,.slice (some ⟨g,0,none⟩) 1 2] W fun e w'=>e=.returned (.tuple #[.int .i64 2,.int .i64 0])/\vl At a gd gl gx gs fP 2 4048 210600 [g] w'/\jE [g] W w' from by
  have:=DR api nap cap h (by decide) (by decide) (by decide) ve (by decide) 1 [exA] l rfl (by decide) (fun x j=>by rw[qH.1 j];exact Jo) qVK;rw[qVV.2]at this;exact this))
 have af:=qQ (fun a gd gl gx gs g W (h:vl At a gd gl gx gs fP 2 4048 210600 [g] W)=>(show Calls prog 20 #[ptr gs,.string ⟨#[115]⟩] W fun e w'=>e=.returned (.tuple #[.int .i64 2,.int .i64 0])/\vl At a gd gl gx gs fP 2 4048 280600 [g] w'/\jE [g] W w' from by
  have:=qVQ api nap cap h (by decide) (by decide) ve (by unfold maxLen;decide) D7.2;rw[D7.1]at this;exact this))
 have ae:=qQ (fun a gd gl gx gs E W (h:vl At a gd gl gx gs fP 2 4048 280600 E W)=>(show Calls prog 13 #[ptr gs,.string ⟨#[115]⟩,.int .i64 1,.int .i64 9] W fun e w'=>∃A c,e=.returned (.tuple #[.slice A 2 c,.int .i64 0])/\kT w' W.1.size (.slice A 2 c) [⟨ve,1,exB⟩,⟨ve,2,exA⟩]/\vl At a gd gl gx gs fP 2 4048 282600 (jL (.slice A 2 c)++E) w'/\jE E W w' from
  qVX api nap cap h (by decide) (by decide) ve (by unfold maxLen;decide) 1 9 (by decide) (by decide) D8 qVY))
 have X:=qQ (fun a gd gl gx gs E W (h:vl At a gd gl gx gs fP 2 4048 282600 E W)=>(show Calls prog 21 #[ptr gs,.string ⟨#[115]⟩,.int .i64 1,.int .i64 9] W fun e w'=>∃A c,e=.returned (.tuple #[.slice A 2 c,.int .i64 0])/\kT w' W.1.size (.slice A 2 c) [⟨ve,1,exB⟩,⟨ve,0,exA⟩]/\vl At a gd gl gx gs fP 2 4048 284600 (jL (.slice A 2 c)++E) w'/\jE E W w' from
  qVZ api nap cap h (by decide) (by decide) ve (by unfold maxLen;decide) 1 9 (by decide) (by decide) D8 qVU))
 have am:=qQ qVG;have ag:=qQ (fun a gd gl gx gs T n u cn W d g (h:vl At a gd gl gx gs T n u cn [] W) (k:Below W.1.size W d) (hg:W.1.size<=g/\g<d.1.size)=>(show vl At a gd gl gx gs T n u cn [g] d from h.more (B:=[g]) api k (fun b k=>by rw[qH.1 k];exact hg)));go_enter func7,ntmps7;go_wp2_with fail;refine ah.out.mono ?_;rintro e w1⟨a,gd,gs,gl,gx,aj,rfl,t⟩;have H:=(qU w1.1.size w1).alloc (qK _) (.cells #[.string ⟨#[97]⟩,.string ⟨#[]⟩,.float .f64 0,.string ⟨#[98]⟩,.string ⟨#[]⟩,.float .f64 0] 64);have o:=qQ (fun W f=>am.out w1 (W:=W) f);obtain⟨N,ak⟩:∃N,w1.alloc (.cells #[.string ⟨#[97]⟩,.string ⟨#[]⟩,.float .f64 0,.string ⟨#[98]⟩,.string ⟨#[]⟩,.float .f64 0] 64)=N:=⟨_,rfl⟩
 have aq:N.1.size=w1.1.size+1:=by rw[<-ak];simp
 rw[ak]at H o;have H2:=qQ (ag.out _ _ _ _ _ _ _ _ _ _ _ w1.1.size t H (by omega));have Y:=qQ (Q.out _ _ _ _ _ _ _ H2.out (fun d f=>(o.out d f).1));have V:=qQ aj;clear aj t H aq ah ag Q;go_wp2_with fail;refine Y.out.mono ?_;rintro e w3⟨rfl,z,M⟩;have Z:=qQ (R.out _ _ _ _ _ _ _ z (fun d f=>(o.out d (M.trans f)).2));have al:=qQ M;clear z M R Y;go_wp2_with fail;refine Z.out.mono ?_;rintro e w4⟨rfl,C,k4⟩;have aa:=qQ (U.out _ _ _ _ _ _ _ C (fun d f=>(o.out d ((al.out.trans k4).trans f)).2));clear C k4 U Z;go_wp2_with fail;refine aa.out.mono ?_;rintro e w5⟨rfl,v,-⟩;have ab:=qQ (af.out _ _ _ _ _ _ _ v);clear v aa af;go_wp2_with fail;refine ab.out.mono ?_;rintro e w6⟨rfl,y,-⟩;have ac:=qQ (ae.out _ _ _ _ _ _ _ y);clear y ab ae;go_wp2_with fail;refine ac.out.mono ?_;rintro e w7⟨A7,c7,rfl,m,G,-⟩;have ad:=qQ (X.out _ _ _ _ _ _ _ G);have ai:=qQ m;clear G ac X m;go_wp2_with fail;refine ad.out.mono ?_;rintro e w8⟨A8,c8,rfl,r8,h8,k8⟩;have m:=k8.zB ai.out (fun b k=>qW _ k);obtain⟨A',ar,ap,e7,-,I⟩:=m.xE.form;obtain⟨b7,rfl,-,x0,x1,O,-⟩:=I 0 _ rfl;obtain⟨an,p,-,-,x6,-⟩:=I 1 _ rfl;obtain⟨rfl,-,-⟩:=Value.slice.inj e7;obtain rfl:b7=an:=by injection p with p;injection p
 obtain⟨A',au,ap,e8,-,J⟩:=r8.xE.form;obtain⟨b8,rfl,-,-,y1,-⟩:=J 0 _ rfl;obtain⟨ao,s,-,-,y6,P,-⟩:=J 1 _ rfl;obtain⟨rfl,-,-⟩:=Value.slice.inj e8;obtain rfl:b8=ao:=by injection s with s;injection s
 have HF:=qQ (V.out.trans (h8.base.mono V.out.size));rw[Nat.zero_mul,Nat.add_zero]at x1 O y1;rw[Nat.one_mul]at x6 y6 P;unfold exB at O;unfold exA at P;simp only at x1 O x6 y1 y6 P;clear m r8 h8 k8 ad ai I J x0 e7 e8 p s;go_wp2;go_ret;exact⟨rfl,HF.out⟩
end
end
section
open Go.RowKit Go.Shelf
theorem ub.wrote{seed:Nat}{D D':jD}{S S':IxS}(h:ub seed D S)(a:(jN D'.l jh).map jI.data=(jN D.l jh).map jI.data)(b:S'.m=S.m)(c:S'.T=S.T)(ok:kB D' S'):ub seed D' S':=by
 rcases h with w1|⟨w1,g,j⟩
 ·exact qX ⟨by rw[a,b];exact w1.map,fun t d=>ok.has t d⟩
 ·refine qY ⟨?_,by rw[c,g],by rw[b,j]⟩;rw[w1]at a;cases q:jN D'.l jh with
  | none=>rfl
  | some f=>rw[q]at a;cases a
theorem Dq{l:List Rec}(h:∀x∈l,vv x.2=true):∀x∈ja l,x.e.b<18446744073709551616:=by
 intro x c;obtain⟨y,f,c⟩:=xZ.1 c;obtain⟨-,-,d⟩:=T9 (h y f);obtain⟨i,a⟩:=qd c;unfold bL at a;rw[nI]at a;obtain⟨z,g,rfl⟩:=xG.1 a;exact(Gc (d z (qM g))).b
section
variable {At:jR}(api:jS At)(nap:jw)(iap:uy At)(cap:vR)(rapi:Qf At){w1 w w':World}{gd gs r seed i cn:Nat}{T:List jT}{E E' B:List Nat}
theorem qVI{x:yg}(h:dC x=false)(f:∀y∈x.l,rE y):x.s.size<=300/\x.l.length<=20/\∀y∈x.l,bC y:=by
 unfold dC at h;simp only[Bool.or_eq_false_iff,decide_eq_false_iff_not]at h;obtain⟨⟨g,j⟩,d⟩:=h;refine⟨by omega,by omega,fun y c=>?_⟩;have a:=List.any_eq_false.1 d y c;unfold dB at a;simp only[Bool.or_eq_true,decide_eq_true_eq,not_or]at a;exact⟨by omega,by omega,(f y c).b⟩
end
end
section
open Go.RowKit
theorem qVL(x:jT)(c:x.e.b<18446744073709551616)(w:World):Calls prog 48 #[.agg (bt x),.agg (bt x)] w (X3 (.bool true) w):=by
 obtain⟨s,v,⟨t,d,b⟩⟩:=x;simp only at c;have k:Below w.1.size w ((w.alloc (.cells (bt ⟨s,v,⟨t,d,b⟩⟩) 66)).alloc (.cells (bt ⟨s,v,⟨t,d,b⟩⟩) 66)):=((qU _ _).alloc (qK _) _).alloc (by simp) _;have f:=qQ k;have g:=qQ fun W=>TA t d b t d b W c c
 rw[Rq]at g;have m:=oL (a:=s) rfl;have o:v=v:=rfl;clear c k;unfold bt at*;go_enter func48,ntmps48
 go_wp2_with (first
  | (go_at_call 96;((with_reducible refine(g.out _).mono ?_);rintro e p⟨rfl,j⟩;have l:=qQ j;clear j))
  | fail)
 go_ret;exact⟨rfl,f.out.trans (l.out.mono f.out.size)⟩
theorem Jw{w:World}{va vb:Value}{l:List jT}(V:vh w va l)(X:vh w vb l)(hn:l.length<=100000)(hl:∀x∈l,x.e.b<18446744073709551616):Calls prog 22 #[va,vb] w (X3 (.bool true) w):=by
 obtain⟨A,c,ca,rfl,-,Y⟩:=V.form;obtain⟨B,f,cb,rfl,-,Z⟩:=X.form;have HA:=qQ Y;have HB:=qQ Z;have HL:=qQ hl;clear V X Y Z hl;obtain⟨n,o⟩:∃n,n=l.length:=⟨_,rfl⟩
 have HN:=qQ o;rw[<-o];rw[<-o]at hn;clear o;go_enter func22,ntmps22;go_wp2;go_loopw [5] (fun i wr=>∃k:Nat,k<=n/\i=.int .i64 (k:Nat)/\Below w.1.size w wr) (fun i _=>n-(intOf i).toNat)
 case atStart=>exact⟨0,qI _,rfl,qU _ _⟩
 case round =>
  obtain⟨k,hk,rfl,m⟩:=hrel;have z:=qQ m;by_cases ad:k<n
  ·obtain⟨x,y⟩:∃x,l[k]? = some x:=⟨_,qD (by rw[<-HN.out];exact ad)⟩
   obtain⟨p,rfl,g,H,I,J,M,N⟩:=HA.out k x y;obtain⟨q,rfl,j,b0,O,P,Q,R⟩:=HB.out k x y;have C:=qQ fun W=>qVL x (HL.out x (qM y)) W
   have G:Hid (∀W,Below wr.1.size wr W->Below wr.1.size wr W/\W.cell? ⟨p,c+k*5,none⟩=some (.string x.s)/\W.cell? ⟨p,c+k*5+1,none⟩=some (.int .i64 x.v)/\W.cell? ⟨p,c+k*5+2,none⟩=some (.string x.e.t)/\W.cell? ⟨p,c+k*5+3,none⟩=some (.string x.e.d)/\W.cell? ⟨p,c+k*5+4,none⟩=some (.float .f64 x.e.b) /\
     W.cell? ⟨q,f+k*5,none⟩=some (.string x.s)/\W.cell? ⟨q,f+k*5+1,none⟩=some (.int .i64 x.v)/\W.cell? ⟨q,f+k*5+2,none⟩=some (.string x.e.t)/\W.cell? ⟨q,f+k*5+3,none⟩=some (.string x.e.d)/\W.cell? ⟨q,f+k*5+4,none⟩=some (.float .f64 x.e.b)) :=
    qQ fun W U=>by
     have a:=m.trans (U.mono m.size);exact⟨U,jm a g H,jm a g I,jm a g J,jm a g M,jm a g N,jm a j b0,jm a j O,jm a j P,jm a j Q,jm a j R⟩
   have ab:=G.out wr (qU _ _);have s1:(k:Int)<(n:Int):=(by omega);obtain⟨xs,xv,⟨xt,xd,xb⟩⟩:=x;simp only at G ab;unfold bt at C;simp only at C;clear H I J M N b0 O P Q R y m;go_wp2_with fail
   go_region_held3 (fun W=>Below wr.1.size wr W/\W.cell? ⟨p,c+k*5,none⟩=some (.string xs)/\W.cell? ⟨p,c+k*5+1,none⟩=some (.int .i64 xv)/\W.cell? ⟨p,c+k*5+2,none⟩=some (.string xt)/\W.cell? ⟨p,c+k*5+3,none⟩=some (.string xd)/\W.cell? ⟨p,c+k*5+4,none⟩=some (.float .f64 xb) /\
     W.cell? ⟨q,f+k*5,none⟩=some (.string xs)/\W.cell? ⟨q,f+k*5+1,none⟩=some (.int .i64 xv)/\W.cell? ⟨q,f+k*5+2,none⟩=some (.string xt)/\W.cell? ⟨q,f+k*5+3,none⟩=some (.string xd)/\W.cell? ⟨q,f+k*5+4,none⟩=some (.float .f64 xb))
    (first|(with_reducible assumption)|((with_reducible refine G.out _ ?_);(first|(with_reducible assumption)|(with_reducible exact qU _ _)|(with_reducible exact(qU _ _).drew)|exact(QD ‹Below _ _ _› (by with_reducible assumption)));done)|fail)
    (first
    | (go_at_call 48;((with_reducible refine KG (C.out _) fun w3 ac=>?_);have aa:=QD (W0:=wr) ac (by with_reducible assumption)))
    | fail)
   all_goals
    go_wp2;go_roundw
    case rel=>exact⟨k+1,by omega,by go_num,z.out.trans (aa.mono z.out.size)⟩
    case measure=>simp[intOf];omega
  ·obtain rfl:k=n:=(by omega);have s1:¬(k:Int)<(k:Int):=(by omega);go_wp2;go_ret;exact⟨rfl,z.out⟩
end
section
open Go.RowKit Go.Shelf
theorem qVM{T:List jT}{k:Nat}{x:jT}(s:Tw)(h:T[k]? = some x):ofT s (T.take (k+1))=if x.s=s then ofT s (T.take k)++[x] else ofT s (T.take k):=by
 rw[qw,h,Ce];by_cases e:x.s=s
 ·rw[qV e];congr 1;show ofT s [x]=[x]
  unfold ofT;rw[List.filter_cons,qV (qB e)];rfl
 ·rw[qZ e]
  have:ofT s (some x).toList=[]:=by
   show ofT s [x]=[]
   unfold ofT;rw[List.filter_cons,qZ (by simpa using e)];rfl
  rw[this,List.append_nil]
section
variable {At:jR}(api:jS At)(nap:jw)(cap:vR){w0 w:World}{gd gl gx gs r seed:Nat}{S:IxS}{L:jq}{chs:List (List Tw)}{D:jD}{E:List Nat}
theorem Dx(h:ju At w0 gd gl gx gs r seed S L chs D E w)(j:(jP 0 chs).length<=90)(s:Tw)(a b:Int):S.T.length+2*(vf S (kX seed s.data.toList) a b).length<=2000:=by
 have g:=h.sx.ok.xR;have d:=nM seed (jP 0 chs) h.rb.whole;have f:(vf S (kX seed s.data.toList) a b).length<=(uE seed (jP 0 chs)).length:=lA (nN h.sx.ok _ a b) (fun x c=>(h.rb.has x).1 ((mI h.sx.ok _ a b x).1 c).1);omega
end
end
section
open Go.RowKit Go.Shelf
theorem KQ{w:World}{base n c:Nat}{A:Option Addr}{l:List jT}(t:kT w base (.slice A n c) l)(v:l.length<=100000)(p:base<=w.1.size)(x:jT)(ty:TypeId):
  ∃u w',(Builtin.append_ #[36,36] ty #[.slice A n c,.slice (some ⟨w.1.size,0,none⟩) 1 1]).run prog (w.alloc (.cells (bt x) 66))=.ok u w'/\∃a d b,u=.slice a d b/\d=(l++[x]).length/\kT w' base (.slice a d b) (l++[x])/\Below base w w':=by
 have o:=(qU w.1.size w).alloc (qK _) (.cells (bt x) 66);have f:=kT.below t o (qK _);obtain⟨a,b,w',g,j,m,-⟩:=DZ f (sG w x) (by rw[List.length_singleton];omega) (by simp;omega) ty;exact⟨_,w',g,a,_,b,rfl,by rw[qN],j,((qU base w).alloc p _).trans (BG m (by simp;omega) (fun k s=>(f.lt k s).1))⟩
theorem sC{w:World}{gm:Nat}{vL:Value}{T:List jT}(I:w.cell? ⟨gm,0,none⟩=some vL)(hT:vh w vL T)(hn:T.length<=100000)(s:Tw):
  Calls prog 53 #[ptr gm,s] w fun e w'=>∃A c,e=.returned (.slice A (ofT s T).length c)/\kT w' w.1.size (.slice A (ofT s T).length c) (ofT s T)/\Below w.1.size w w':=by
 obtain⟨A,off,c,rfl,-,hc⟩:=hT.form;have ab:gm<w.1.size:=World.block_lt_of_cell? w _ I;have HC:=qQ hc;obtain⟨n,N⟩:∃n,n=T.length:=⟨_,rfl⟩
 rw[<-N]at I;have Q:=qQ N;have ad:n<=100000:=by omega
 have H0:=qQ (fun W (hW:Below w.1.size w W)=>jm hW ab I);clear hT hc N hn;go_enter func53,ntmps53;go_wp2;go_loopw [5,6] (fun lv O wr=>∃(k p c1:Nat) (l:Option Addr),k<=n/\O=.int .i64 (k:Nat)/\lv=.slice l p c1/\p=(ofT s (T.take k)).length/\kT wr w.1.size (.slice l p c1) (ofT s (T.take k))/\Below w.1.size w wr) (fun _ O _=>n-(intOf O).toNat)
 case atStart=>exact⟨0,0,0,none,qI _,rfl,rfl,rfl,kT.nil _ _,qU _ _⟩
 case round =>
  obtain⟨k,p,c1,l,hk,rfl,rfl,j,d,b⟩:=hrel;have q0:=H0.out wr b;by_cases ac:k<n
  ·have s1:(k:Int)<(n:Int):=(by omega);obtain⟨y,t⟩:∃y,T[k]? = some y:=⟨_,qD (by rw[<-Q.out];exact ac)⟩
   obtain⟨g,rfl,o,v,z,C,G,H⟩:=HC.out k y t;have b0:=jm b o v;have R:=jm b o z;have U:=jm b o C;have V:=jm b o G;have X:=jm b o H;have f:=qVM s t
   have J:(ofT s (T.take k)).length<=100000:=by
    have h2:(ofT s (T.take k)).length<=(T.take k).length:=List.length_filter_le _ _;rw[qT]at h2;omega
   by_cases e:y.s=s
   ·rw[qV e]at f;have m:=oL e;obtain⟨u,w9,Z,A9,n9,c9,rfl,M,P,Y⟩:=KQ d J b.size y 36;rw[<-f]at P M;have aa:=qQ Z;have a:=qQ (qG M (qG P (b.trans Y)));obtain⟨ys,yv,⟨yt,yd,yb⟩⟩:=y;simp only at b0 R U V X m;clear Z M P Y t v z C G H f d j e J;go_wp2_with (first|(at_builtin;refine yK rfl _ _ rfl rfl rfl aa.out ?_)|fail);go_roundw
    case rel=>exact⟨k+1,n9,c9,A9,by omega,by go_num,rfl,a.out.1,a.out.2.1,a.out.2.2⟩
    case measure=>simp[intOf];omega
   ·rw[qZ e]at f;have m:=rU e;rw[<-f]at d j;have a:=qQ (qG j (qG d b));obtain⟨ys,yv,⟨yt,yd,yb⟩⟩:=y;simp only at b0 R U V X m;clear t v z C G H f d j e J;go_wp2;go_roundw
    case rel=>exact⟨k+1,p,c1,l,by omega,by go_num,rfl,a.out.1,a.out.2.1,a.out.2.2⟩
    case measure=>simp[intOf];omega
  ·obtain rfl:k=n:=(by omega);have s1:¬(k:Int)<(k:Int):=(by omega);have m:T.take k=T:=(by rw[Q.out,List.take_length]);rw[m]at d j;have a:=qQ (qG d b);subst j;clear d;go_wp2;go_ret;exact⟨l,c1,rfl,a.out.1,a.out.2⟩
theorem qVN{w:World}{gm:Nat}{vL:Value}{T:List jT}(c:w.cell? ⟨gm,0,none⟩=some vL)(d:vh w vL T)(b:T.length<=100000)(s:Tw)(f:s.size<=maxLen):
  Calls prog 27 #[ptr gm,s] w (X3 (.tuple #[.int .i64 (if stS s=true then uN s T else -1),.int .i64 (if stS s=true then 0 else 2)]) w):=by
 have a:=sw s w f;have l:=qQ (sC c d b s);by_cases e:stS s=true
 ·rw[e]at a;rw[qV e,qV e];have a:=qQ a;unfold uN;have t:(ofT s T).length<=100000:=qR (List.length_filter_le _ _) b;generalize ofT s T=P at*;clear c d b f e;go_enter func27,ntmps27
  go_wp2_with (first
   | (go_at_call 52;((with_reducible refine a.out.mono ?_);rintro e m⟨rfl,rfl⟩))
   | (go_at_call 53;((with_reducible refine l.out.mono ?_);rintro e v⟨o,p,rfl,-,g⟩;have k:=qQ g;clear g))
   | fail)
  go_ret2;exact⟨rfl,k.out⟩
 ·have j:stS s=false:=by simpa using e
  rw[j]at a;rw[qZ e,qZ e];have a:=qQ a;clear c d b f e j;go_enter func27,ntmps27
  go_wp2_with (first
   | (go_at_call 52;((with_reducible refine a.out.mono ?_);rintro e m⟨rfl,rfl⟩))
   | fail)
  go_ret2;exact⟨rfl,qU _ _⟩
theorem qVO{P:Program}(w:World)(t e:TypeId)(i:TypeInfo)(z:Value)(size bytes:Nat)(ty:TypeId)(y:P.underlying t=some (.slice e))(hi:P.info? e=some i)(C:i.zero=some z)
  (Y:i.size=size) (N:i.bytes=bytes) (G:z.cells.size=size) (Z:0<size)
  (A:Option Addr) (n:Nat) (xs:List Value) (j:gI w size (.slice A n n) n xs) (H:Value) (m:Nat) (d:List Value) (g:gI w size H m d) (M:∀u∈d,u.oneCell'=true) (h0:0<m)
  (o:n+m<=maxLen) (p:(n+m)*bytes<=140737488355328):
  ∃l w',(Builtin.append_ #[t,t] ty #[.slice A n n,H]).run P w=.ok l w'/\w'.ownsRow w.1.size e size l (n+m) (xs++d)/\Below w.1.size w w':=by
 subst Y;subst N;have aa:n+m<=9223372036854775807:=by simp only[maxLen]at o;omega
 rcases g.2 with⟨c,-,s⟩|⟨b,c,rfl,s⟩
 ·omega
 have v:(xs++d).length=(n+m)*i.size:=by rw[qN,j.1,g.1,Nat.add_mul]
 rcases j.2 with⟨c2,f,V⟩|⟨a,c2,f,O⟩
 ·obtain⟨rfl,-,-⟩:=Value.slice.inj f;subst V;obtain rfl:xs=[]:=List.eq_nil_of_length_eq_zero (by simpa using j.1);obtain⟨l,w',I,f,J,-⟩:=cr (P:=P) w w.1.size t e i z _ _ ty y hi C rfl rfl G Z (.slice none 0 0) 0 [] (World.ownsRow_nil _ _ _ _) _ m d g M o p (qK _);exact⟨l,w',I,f,jH.below ((jH.refl [] w).grown J (fun k U=>by cases U)) (qK _) (fun x hx=>by cases hx)⟩
 ·obtain⟨rfl,-,-⟩:=Value.slice.inj f;have X:=run_append_grow (P:=P) w t ty e i z y hi C a n n xs j.1 O b m c d g.1 s (by omega) (by omega) (growslice_fits (by omega) p);have R:=grownCap_ge w (n+m) n e;have Q:grownCap w (n+m) n e<=maxLen:=grownCap_le_maxLen w (n+m) n e o;refine⟨_,_,X,⟨v,.inr ⟨w.1.size,_,_,rfl,qK _,heap_alloc_new w.drew _,R,Q, ?_, ?_⟩⟩,(qU w.1.size w).drew.alloc (qK _) _⟩
  ·simp only[Array.size_append,List.size_toArray,size_zeroCells,G,j.1,g.1,<-Nat.add_mul];congr 1;omega
  ·simp only[Array.toList_append,List.append_assoc];rw[<-qn,<-v];exact List.take_left
def nP(q:Bool)(w:World)(b0:Nat)(F:List Nat)(N:Nat)(e:TypeId)(size:Nat)(v:Value)(n:Nat)(xs:List Value):Prop :=
 (w.ownsRow b0 e size v n xs/\∀b∈jL v,b∈F∨N<=b)∨(q=true/\(∃A,v=.slice A n n)/\gI w size v n xs)
theorem nP.xC{q:Bool}{w w':World}{b0 N:Nat}{F G:List Nat}{e:TypeId}{size n:Nat}{v:Value}{xs:List Value}(h:nP q w b0 F N e size v n xs)(m:jH G w w')(k:∀b∈jL v,b ∉ G)(y:∀b∈jL v,b<w.1.size):nP q w' b0 F N e size v n xs:=by
 rcases h with⟨o,f⟩|⟨z,⟨A,rfl⟩,f,g⟩
 ·exact qX ⟨bw o m (fun b d=>k b (jt.2 d)),f⟩
 ·refine qY ⟨z,⟨A,rfl⟩,f, ?_⟩;rcases g with g|⟨a,c,e,s⟩
  ·exact qX g
  ·refine qY ⟨a,c,e,fun j u t=>?_⟩;obtain⟨rfl,-,-⟩:=Value.slice.inj e;have d:a.block∈jL (.slice (some a) n n):=jt.2 rfl;have l:(a.add j).block=a.block:=(by unfold Addr.add;split<;>rfl);rw[m.cell (p:=a.add j) (by rw[l];exact y _ d) (by rw[l];exact k _ d)];exact s j u t
theorem nP.append{q:Bool}{P:Program}{w:World}{b0 N:Nat}{F:List Nat}{t e:TypeId}{i:TypeInfo}{z:Value}{size bytes:Nat}{ty:TypeId}(R:P.underlying t=some (.slice e))(hi:P.info? e=some i)(U:i.zero=some z)
  (O:i.size=size) (I:i.bytes=bytes) (V:z.cells.size=size) (Q:0<size) {v:Value} {n:Nat} {xs:List Value} (h:nP q w b0 F N e size v n xs) (hN:b0<=N) (hw:N<=w.1.size)
  {o:Value} {m:Nat} {f:List Value} (M:gI w size o m f) (G:∀u∈f,u.oneCell'=true) (h0:0<m) (H:n+m<=maxLen) (J:(n+m)*bytes<=140737488355328):
  ∃c w',(Builtin.append_ #[t,t] ty #[v,o]).run P w=.ok c w'/\w'.ownsRow b0 e size c (n+m) (xs++f)/\(∀b∈jL c,b∈jL v/\b∈F∨w.1.size<=b∨b∈jL v/\N<=b)/\(jH (jL v) w w'/\(∀b∈jL v,b∈F∨N<=b)∨jH [] w w'):=by
 rcases h with⟨Z,l⟩|⟨-,⟨A,rfl⟩,l⟩
 ·obtain⟨c,w',s,d,y,Y⟩:=cr (P:=P) w b0 t e i z size bytes ty R hi U O I V Q v n xs Z o m f M G H J (qR hN hw);refine⟨c,w',s,d,fun b a=>?_,qX ⟨(jH.refl _ _).grown y (fun k hk=>qX (jt.2 hk)),l⟩⟩;have a:=jt.1 a;rcases Y with p|p
  ·rw[p]at a;have C:b∈jL v:=jt.2 a;rcases l b C with j|j
   ·exact qX ⟨C,j⟩
   ·exact qY (qY ⟨C,j⟩)
  ·rw[p]at a;obtain rfl:=qb a;exact qY (qX (qK _))
 ·obtain⟨c,w',s,d,y⟩:=qVO (P:=P) w t e i z size bytes ty R hi U O I V Q A n xs l o m f M G h0 H J;refine⟨c,w',s, ?_,fun b a=>qY (qX (d.lt b (jt.1 a)).1),qY (jH.xA y)⟩;refine⟨d.1, ?_⟩;rcases d.2 with k|⟨g,cap,X,k1,k2,k3⟩
  ·exact qX k
  ·exact qY ⟨g,cap,X,k1,by omega,k3⟩
end
section
open Go.RowKit Go.Shelf
structure uJ(q:Bool)(ws:World)(gm:Nat)(F:List Nat)(b0:Nat)(vL vM vS:Value)(T:List jT)(K:List Int)(w:World):Prop where
 m:jF w gm 39 #[vL,vM,vS]
 gL:nP q w b0 F ws.1.size 66 5 vL T.length (ug T)
 gM:nP q w b0 F ws.1.size 3 1 vM K.length (K.map lL)
 zZ:∀b∈jL vL,b<w.1.size
 zW:∀b∈jL vM,b<w.1.size
 aL:gm ∉ jL vL
 aM:gm ∉ jL vM
 ap:∀b∈jL vL,b ∉ jL vM
 tc:jH F ws w
 gF:gm∈F
 lo:b0<=ws.1.size
section
variable {q:Bool}{ws w W:World}{gm b0:Nat}{F:List Nat}{vL vM vS:Value}{T:List jT}{K:List Int}
theorem uJ.below(h:uJ q ws gm F b0 vL vM vS T K w)(a:Below w.1.size w W):uJ q ws gm F b0 vL vM vS T K W :=
 ⟨h.m.below a,h.gL.xC (jH.xA a) (fun _ _=>by simp) h.zZ,h.gM.xC (jH.xA a) (fun _ _=>by simp) h.zW,fun b c=>qS (h.zZ b c) a.size,fun b c=>qS (h.zW b c) a.size,h.aL,h.aM,h.ap,h.tc.trans (jH.xA a) (fun _ d=>by cases d),h.gF,h.lo⟩
theorem uJ.more(h:uJ q ws gm F b0 vL vM vS T K w)(J:Below w.1.size w W)(x:jT){G:Value}(N:vh W G [x])(Y:T.length<=100000)(ty:TypeId):
  ∃A c w',(Builtin.append_ #[36,36] ty #[vL,G]).run prog W=.ok (.slice A (T.length+1) c) w'/\w'.cell? ⟨gm,0,none⟩=some vL/\w'.frozen? ⟨gm,0,none⟩=false/\uJ q ws gm F b0 (.slice A (T.length+1) c) vM vS (T++[x]) K (w'.setCell ⟨gm,0,none⟩ (.slice A (T.length+1) c)):=by
 have a:=h.below J;have Z:=a.m.lt;obtain⟨i0,M,U,V,X⟩:=info_parts DX;obtain⟨v',w',H,j,v,y⟩:=a.gL.append (P:=prog) (ty:=ty) Tryz.underlying36 M U V X rfl (by decide) a.lo a.tc.size (N.src) Cw (by simp) (by simp only[List.length_cons,List.length_nil];unfold maxLen;omega) (by simp only[List.length_cons,List.length_nil];omega);obtain⟨A,c,rfl,-,-,-⟩:=v8 j;refine⟨A,c,w',H, ?_⟩
 have l:jH (jL vL) W w':=by
  rcases y with⟨t,-⟩|t
  ·exact t
  ·exact t.more (fun _ g=>by cases g)
 have Q:jH F ws w':=by
  rcases y with⟨t,s⟩|t
  ·exact a.tc.trans t s
  ·exact a.tc.trans t (fun _ g=>by cases g)
 have o:=a.m.xC l a.aL
 have C:∀b∈jL (.slice A (T.length+1) c),b∈jL vL∨W.1.size<=b:=fun b d=>by
  rcases v b d with k|k|k
  ·exact qX k.1
  ·exact qY k
  ·exact qX k.1
 have z:gm ∉ jL (.slice A (T.length+1) c):=fun f=>by
  rcases C gm f with k|k
  ·exact a.aL k
  ·omega
 have R:jH (gm::jL vL) W (w'.setCell ⟨gm,0,none⟩ (.slice A (T.length+1) c)):=jH.setCell (p:=⟨gm,0,none⟩) (l.more (fun x g=>qX (qF _ g))) (qX qC) _;have O:w'.1.size<=(w'.setCell ⟨gm,0,none⟩ (.slice A (T.length+1) c)).1.size:=(jH.setCell (p:=⟨gm,0,none⟩) (jH.refl [gm] w') (qX qC) _).size;refine⟨o.cell 0,o.frozen 0,o.put 0 _,qX ⟨?_,fun b d=>?_⟩,a.gM.xC R (fun b d f=>?_) a.zW,fun b d=>qS (j.lt b (jt.1 d)).2 O,fun b d=>?_,z,a.aM,fun b d f=>?_,Q.setCell (qX a.gF) _,a.gF,a.lo⟩
 ·have I:=vu j (p:=⟨gm,0,none⟩) (fun s=>z (jt.2 s)) (.slice A (T.length+1) c);rw[DQ,qN];exact I
 ·rcases v b d with k|k|k
  ·exact qX k.2
  ·have:=a.tc.size;exact qY (by omega)
  ·exact qY k.2
 ·rcases qL.1 f with k|k
  ·rw[k]at d;exact a.aM d
  ·exact a.ap b k d
 ·have:=a.zW b d;have:=l.size;omega
 ·rcases C b d with k|k
  ·exact a.ap b k f
  ·have:=a.zW b f;omega
theorem uJ.many(h:uJ q ws gm F b0 vL vM vS T K w)(J:Below w.1.size w W)(x:Int){G:Value}(N:kF W G [x])(Y:K.length<=100000)(ty:TypeId):
  ∃A c w',(Builtin.append_ #[37,37] ty #[vM,G]).run prog W=.ok (.slice A (K.length+1) c) w'/\w'.cell? ⟨gm,1,none⟩=some vM/\w'.frozen? ⟨gm,1,none⟩=false/\uJ q ws gm F b0 vL (.slice A (K.length+1) c) vS T (K++[x]) (w'.setCell ⟨gm,1,none⟩ (.slice A (K.length+1) c)):=by
 have a:=h.below J;have Z:=a.m.lt;obtain⟨i0,M,U,V,X⟩:=info_parts sF;obtain⟨v',w',H,j,v,y⟩:=a.gM.append (P:=prog) (ty:=ty) Tryz.underlying37 M U V X rfl (by decide) a.lo a.tc.size (N.src) KA (by simp) (by simp only[List.length_cons,List.length_nil];unfold maxLen;omega) (by simp only[List.length_cons,List.length_nil];omega);obtain⟨A,c,rfl,-,-,-⟩:=v8 j;refine⟨A,c,w',H, ?_⟩
 have l:jH (jL vM) W w':=by
  rcases y with⟨t,-⟩|t
  ·exact t
  ·exact t.more (fun _ g=>by cases g)
 have Q:jH F ws w':=by
  rcases y with⟨t,s⟩|t
  ·exact a.tc.trans t s
  ·exact a.tc.trans t (fun _ g=>by cases g)
 have o:=a.m.xC l a.aM
 have C:∀b∈jL (.slice A (K.length+1) c),b∈jL vM∨W.1.size<=b:=fun b d=>by
  rcases v b d with k|k|k
  ·exact qX k.1
  ·exact qY k
  ·exact qX k.1
 have z:gm ∉ jL (.slice A (K.length+1) c):=fun f=>by
  rcases C gm f with k|k
  ·exact a.aM k
  ·omega
 have R:jH (gm::jL vM) W (w'.setCell ⟨gm,1,none⟩ (.slice A (K.length+1) c)):=jH.setCell (p:=⟨gm,1,none⟩) (l.more (fun x g=>qX (qF _ g))) (qX qC) _;have O:w'.1.size<=(w'.setCell ⟨gm,1,none⟩ (.slice A (K.length+1) c)).1.size:=(jH.setCell (p:=⟨gm,1,none⟩) (jH.refl [gm] w') (qX qC) _).size;refine⟨o.cell 1,o.frozen 1,o.put 1 _,a.gL.xC R (fun b d f=>?_) a.zZ,qX ⟨?_,fun b d=>?_⟩,fun b d=>?_,fun b d=>qS (j.lt b (jt.1 d)).2 O,a.aL,z,fun b d f=>?_,Q.setCell (qX a.gF) _,a.gF,a.lo⟩
 ·rcases qL.1 f with k|k
  ·rw[k]at d;exact a.aL d
  ·exact a.ap b d k
 ·have I:=vu j (p:=⟨gm,1,none⟩) (fun s=>z (jt.2 s)) (.slice A (K.length+1) c);rw[List.map_append,qN];exact I
 ·rcases v b d with k|k|k
  ·exact qX k.2
  ·have:=a.tc.size;exact qY (by omega)
  ·exact qY k.2
 ·have:=a.zZ b d;have:=l.size;omega
 ·rcases C b f with k|k
  ·exact a.ap b d k
  ·have:=a.zZ b d;omega
theorem qVP{I:Array Oper}{o:Oper}{a:Act}{f:Act->World->Prop}{Q:Exit->Act->World->Prop}{E:Prop}{g:Value}{x:jT}
  (h:uJ q ws gm F b0 vL vM vS T K w) (t:T.length<=100000) (v:Below w.1.size w W) (y:o.guard=none) (s x':Operand)
  (z:o.op=.call { callee:=.builtin .append,args:=#[s,x'],argTypes:=#[36,36] }) (C:a.eval s=vL) (H:a.eval x'=g) (G:vh W g [x])
  (p:∀b d w',w'.cell? ⟨gm,0,none⟩=some vL->w'.frozen? ⟨gm,0,none⟩=false->uJ q ws gm F b0 (.slice b (T.length+1) d) vM vS (T++[x]) K (w'.setCell ⟨gm,0,none⟩ (.slice b (T.length+1) d))->f (a.put o.dst (.slice b (T.length+1) d)) w'):
  if Region.wanted o (yielded I a.tmps)=true then Oper.wp prog o a W f Q else E:=by
 obtain⟨A,c,w',j,k,l,m⟩:=h.more v x G t o.type;exact Qm y s x' _ z C H j (p A c w' k l m)
end
end
end Go.Proofs.YthejglbnkmimjaaGreat

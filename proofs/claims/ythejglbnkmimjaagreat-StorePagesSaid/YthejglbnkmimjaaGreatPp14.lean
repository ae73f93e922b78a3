import Derived.Test.YthejglbnkmimjaaGreatPp12
import Derived.Test.YthejglbnkmimjaaGreatPp13
set_option linter.unusedVariables false
set_option maxRecDepth 100000
set_option maxHeartbeats 9000000
namespace Go.Proofs.YthejglbnkmimjaaGreat
open Proofs.Tryz
section
open Go.RowKit
def bt(D:jL)(s:Tw):Nat × jL:=if (kQ D j5 s).1≠0 then kQ D j5 s else vj (kQ D j5 s).2 j5 j7
theorem qZt{D:jL}{s:Tw}(h:(jk D j5).1≠0):bt D s=jk D j5:=by
 have e:kQ D j5 s=jk D j5:=by unfold kQ;rw[qV h]
 unfold bt;rw[e,qV h]
theorem qZa{D:jL}{s:Tw}(h:(jk D j5).1=0)(a:(jr (jk D j5).2 j5 s).1≠0):bt D s=jr (jk D j5).2 j5 s:=by
 have e:kQ D j5 s=jr (jk D j5).2 j5 s:=by unfold kQ;rw[qZ (by simp[h]),qV a]
 unfold bt;rw[e,qV a]
theorem qZe{D:jL}{s:Tw}(h:(jk D j5).1=0)(a:(jr (jk D j5).2 j5 s).1=0)(b:(kJ (jr (jk D j5).2 j5 s).2 j5).1≠0):bt D s=kJ (jr (jk D j5).2 j5 s).2 j5:=by
 have e:kQ D j5 s=kJ (jr (jk D j5).2 j5 s).2 j5:=by unfold kQ;rw[qZ (by simp[h]),qZ (by simp[a])]
 unfold bt;rw[e,qV b]
theorem qZi{D:jL}{s:Tw}(h:(jk D j5).1=0)(a:(jr (jk D j5).2 j5 s).1=0)(b:(kJ (jr (jk D j5).2 j5 s).2 j5).1=0):bt D s=vj (kJ (jr (jk D j5).2 j5 s).2 j5).2 j5 j7:=by
 have e:kQ D j5 s=kJ (jr (jk D j5).2 j5 s).2 j5:=by unfold kQ;rw[qZ (by simp[h]),qZ (by simp[a])]
 unfold bt;rw[e,qZ (by simp[b])]
section
variable {At:j6}(api:j8 At){w0 w:World}{gd:Nat}{D:jL}{E:List Nat}
include api
theorem C7(h:DS At w0 gd D E w)(ok:WfP D):Calls prog 134 #[ptr gd] w (X0 (err (if D.down=true then 61 else 0)) w):=by
 have c:=h.size api ok ⟨#[109,97,112]⟩ (by decide);rcases tL D ⟨#[109,97,112]⟩ with⟨f,g⟩|⟨f,g⟩
 ·rw[qV f];rw[g]at c;have d:=qQ c;clear c;go_enter func134,ntmps134;go_wp2_with fail;refine X5 d.out ?_;go_wp2;go_ret;exact⟨rfl,rfl⟩
 ·rw[qZ (by rw[f];decide)];have i:(((j9 D ⟨#[109,97,112]⟩).2:Int)==1)=false:=by simp;omega
  have j:(((j9 D ⟨#[109,97,112]⟩).2:Int)==61)=false:=by simp;omega
  have d:=qQ c;generalize (j9 D ⟨#[109,97,112]⟩).1=a at*;generalize (j9 D ⟨#[109,97,112]⟩).2=b at*;clear c g;go_enter func134,ntmps134;go_wp2_with fail;refine X5 d.out ?_;go_wp2;go_ret;exact⟨rfl,rfl⟩
theorem qZo(h:DS At w0 gd D E w)(ok:WfP D)(s:Tw)(A:s.size<=1099511627776):Calls prog 236 #[ptr gd,s] w (yf At w0 gd (err (bt D s).1) (bt D s).2 E w):=by
 have f:Calls prog 201 #[ptr gd,.string ⟨#[110,101,119]⟩] w (yf At w0 gd (err (jk D j5).1) (jk D j5).2 E w):=h.xE api (fun F hF=>api.create j5 hF ok.ok (by decide));have o:=lj ok j5;have p:=lk o j5 s;have C:=mr p j5;have j:∀W,DS At w0 gd (jk D j5).2 E W->Calls prog 203 #[ptr gd,.string ⟨#[110,101,119]⟩,s] W (yf At w0 gd (err (jr (jk D j5).2 j5 s).1) (jr (jk D j5).2 j5 s).2 E W):=fun W z=>z.xE api (fun F hF=>api.append j5 s hF o.ok A (by decide))
 have n:∀W,DS At w0 gd (jr (jk D j5).2 j5 s).2 E W->Calls prog 160 #[ptr gd,.string ⟨#[110,101,119]⟩] W (yf At w0 gd (err (kJ (jr (jk D j5).2 j5 s).2 j5).1) (kJ (jr (jk D j5).2 j5 s).2 j5).2 E W):=fun W z=>z.xE api (fun F hF=>api.sync j5 hF p.ok (by decide))
 have B:∀W,DS At w0 gd (kJ (jr (jk D j5).2 j5 s).2 j5).2 E W->Calls prog 245 #[ptr gd,.string ⟨#[110,101,119]⟩,.string ⟨#[109,97,112]⟩] W (yf At w0 gd (err (vj (kJ (jr (jk D j5).2 j5 s).2 j5).2 j5 j7).1) (vj (kJ (jr (jk D j5).2 j5 s).2 j5).2 j5 j7).2 E W):=fun W z=>z.xE api (fun F hF=>api.rename j5 j7 hF C.ok (by decide) (by decide))
 by_cases d:(jk D j5).1=0
 case neg =>
  rw[qZt d];have t:(((jk D j5).1:Int) != 0)=true:=by simp;omega
  generalize jk D j5=Q at*;generalize Q.1=y at*;have l:=qQ f;clear f j n B h ok o p C d A;go_enter func236,ntmps236;go_wp2_with fail;refine l.out.mono ?_;rintro e I⟨rfl,b,c⟩;have a:=qQ (qU b c);clear b c;go_wp2;go_ret;exact⟨rfl,a.out.1,a.out.2⟩
 rw[d]at f;by_cases m:(jr (jk D j5).2 j5 s).1=0
 case neg =>
  rw[qZa d m];have t:(((jr (jk D j5).2 j5 s).1:Int) != 0)=true:=by simp;omega
  generalize jr (jk D j5).2 j5 s=R at*;generalize (jk D j5).2=J at*;generalize R.1=y at*;have l:=qQ f;have r:=qQ j;clear f j n B h ok o p C d m A;go_enter func236,ntmps236;go_wp2_with fail;refine l.out.mono ?_;rintro e I⟨rfl,b,c⟩;have a:=qQ (qU b c);clear b c;go_wp2_with fail;refine(r.out _ a.out.1).mono ?_;rintro e N⟨rfl,i,k⟩;have g:=qQ (qU i k);clear i k;go_wp2;go_ret;exact⟨rfl,g.out.1,a.out.2.trans g.out.2⟩
 rw[m]at j;by_cases v:(kJ (jr (jk D j5).2 j5 s).2 j5).1=0
 case neg =>
  rw[qZe d m v];have t:(((kJ (jr (jk D j5).2 j5 s).2 j5).1:Int) != 0)=true:=by simp;omega
  generalize kJ (jr (jk D j5).2 j5 s).2 j5=S at*;generalize (jr (jk D j5).2 j5 s).2=O at*;generalize (jk D j5).2=J at*;generalize S.1=y at*;have l:=qQ f;have r:=qQ j;have H:=qQ n;clear f j n B h ok o p C d m v A;go_enter func236,ntmps236;go_wp2_with fail;refine l.out.mono ?_;rintro e I⟨rfl,b,c⟩;have a:=qQ (qU b c);clear b c;go_wp2_with fail;refine(r.out _ a.out.1).mono ?_;rintro e N⟨rfl,i,k⟩;have g:=qQ (qU i k);clear i k;go_wp2_with fail;refine(H.out _ g.out.1).mono ?_;rintro e T⟨rfl,u,G⟩;have q:=qQ (qU u G);clear u G;go_wp2;go_ret;exact⟨rfl,q.out.1,(a.out.2.trans g.out.2).trans q.out.2⟩
 rw[qZi d m v];rw[v]at n;generalize vj (kJ (jr (jk D j5).2 j5 s).2 j5).2 j5 j7=V at*;generalize (kJ (jr (jk D j5).2 j5 s).2 j5).2=U at*;generalize (jr (jk D j5).2 j5 s).2=O at*;generalize (jk D j5).2=J at*;have l:=qQ f;have r:=qQ j;have H:=qQ n;have P:=qQ B;clear f j n B h ok o p C d m v A;go_enter func236,ntmps236;go_wp2_with fail;refine l.out.mono ?_;rintro e I⟨rfl,b,c⟩;have a:=qQ (qU b c);clear b c;go_wp2_with fail;refine(r.out _ a.out.1).mono ?_;rintro e N⟨rfl,i,k⟩;have g:=qQ (qU i k);clear i k;go_wp2_with fail;refine(H.out _ g.out.1).mono ?_;rintro e T⟨rfl,u,G⟩;have q:=qQ (qU u G);clear u G;go_wp2_with fail;refine(P.out _ q.out.1).mono ?_;rintro e X⟨rfl,L,M⟩;have K:=qQ (qU L M);clear L M;go_wp2;go_ret;exact⟨rfl,K.out.1,((a.out.2.trans g.out.2).trans q.out.2).trans K.out.2⟩
end
theorem qZw{x:Tw}(h:vm x=true):npK x=99∨npK x=116∨npK x=98:=by
 obtain⟨c,l,-,-,a,-,e,-⟩:=Xe h;rw[e];unfold isK at a;simp only[Bool.or_eq_true,beq_iff_eq]at a;rcases a with(rfl|rfl)|rfl
 ·exact qX rfl
 ·exact qY (qX rfl)
 ·exact qY (qY rfl)
theorem qJQ(o:kZ)(x:Tw)(v:Value)(fl:List Int)(w:World)(j:x.size<=maxLen)(f:kN w v fl)(i:fl.length<=1000000):
  Calls prog 194 #[x,v] w (X3 (.bool (vm x&&!decide (npK x=99)&&!decide ((npN x:Int)∈fl))) w):=by
 have c:=qQ (o.parse x w j);have b:=qQ (fun W (n:Below w.1.size w W)=>Qx v fl (npN x:Nat) W (f.below n (qK _)) i);have d:=@qZw x;obtain⟨A,off,p,rfl,-,-⟩:=f.cell;generalize decide ((npN x:Int)∈fl)=q at*;generalize vm x=ok at*;generalize npK x=r at*;generalize npN x=s at*;clear f i j;generalize fl.length=m at*;cases ok with
 | false =>
   rw[Bool.false_and,Bool.false_and];clear d b;go_enter func194,ntmps194;go_wp2_with fail;refine c.out.mono ?_;rintro e g⟨rfl,a⟩;go_wp2;go_ret;exact⟨rfl,a⟩
 | true =>
   rcases d rfl with rfl|rfl|rfl
   ·rw[qB rfl];clear d b;go_enter func194,ntmps194;go_wp2_with fail;refine c.out.mono ?_;rintro e g⟨rfl,a⟩;go_wp2;go_ret;exact⟨rfl,a⟩
   all_goals
    rw[qA (by decide)];clear d;go_enter func194,ntmps194;go_wp2_with fail;refine c.out.mono ?_;rintro e g⟨rfl,a⟩;have l:=qQ (b.out g a);have k:=qQ a;clear a b c;go_wp2_with fail;refine l.out.mono ?_;rintro e t⟨rfl,rfl⟩;go_wp2;go_ret;exact⟨by cases q<;>rfl,k.out⟩
end
section
open Go.RowKit Go.Shelf
theorem C8(v:Value)(R:LvL)(k:Int)(w:World)(h:km w v R)(q:R.flatten.length<=100000)(o:R.length<=100000):
  Calls prog 70 #[v,k] w (nT w R k):=by
 have g:=qQ (Jc v R w h q o);cases f:ye R with
 | false =>
   have d:=Qv (w:=w) (CU (R:=R) (k:=k) (qX f));rw[f]at g;clear h q o f;go_enter func70,ntmps70;go_wp2_with fail;refine g.out.mono ?_;rintro e y⟨rfl,a⟩;have c:=qQ a;clear a;go_wp2;go_ret2;exact d.out _ c.out
 | true =>
   rw[f]at g;by_cases s:k<0∨4<k
   ·have d:=Qv (w:=w) (CU (R:=R) (k:=k) (qY s));clear h q o f;have G:(k<0)∨(¬k<0/\5<=k):=(by omega);clear s;rcases G with G|⟨G,ab⟩
    ·go_enter func70,ntmps70;go_wp2_with fail;refine g.out.mono ?_;rintro e y⟨rfl,a⟩;have c:=qQ a;clear a;go_wp2;go_ret2;exact d.out _ c.out
    ·go_enter func70,ntmps70;go_wp2_with fail;refine g.out.mono ?_;rintro e y⟨rfl,a⟩;have c:=qQ a;clear a;go_wp2;go_ret2;exact d.out _ c.out
   ·obtain⟨j,rfl⟩:∃j:Nat,k=(j:Nat):=⟨k.toNat,by omega⟩
    have hj:j<=4:=(by omega);have i:(vA R).getD ((j:Nat):Int).toNat []=R.getD j []:=(by rw[qa,l8]);have q1:decide (((j:Nat):Int)<0)=false:=qA (by omega);have q2:decide ((5:Int)<=((j:Nat):Int))=false:=qA (by omega);have q3:¬(5:Int)<=((j:Nat):Int):=(by omega);obtain⟨A,off,aa,rfl,-,B⟩:=h.form;rcases qd j R.length with U|K
    ·obtain⟨x,t⟩:∃x,R[j]? = some x:=⟨_,qE U⟩
     obtain⟨b,u,rfl,a,c1,r⟩:=B j x t;have V:=om t;have F:R.getD j []=x:=(by rw[qj,t];rfl);rw[F]at i;have Y:decide (((R.length:Nat):Int)<=((j:Nat):Int))=false:=qA (by omega);have Z:decide (R.length<=j)=false:=qA (by omega);have q6:((j:Nat):Int)<((R.length:Nat):Int):=(by omega);by_cases z:x=[]
     ·subst z;have d:=Qv (w:=w) (CG (k:=(j:Nat)) f (by omega) (by omega) i);obtain⟨O,X,c2,rfl,-,-⟩:=r.form;have q7:((([]:List Int).length:Nat):Int)=0:=rfl;clear h q o f B t r F i V s;generalize R.length=n at*;go_enter func70,ntmps70;go_wp2_with fail;refine g.out.mono ?_;rintro e y⟨rfl,l⟩;have c:=qQ l;have H:=(l.cell (p:=⟨b,off+j,none⟩) a).trans c1;rw[List.length_nil]at H;clear l c1;go_wp2;go_ret2;exact d.out _ c.out
     ·have d:=qXu (w:=w) (qXy (k:=(j:Nat)) f (by omega) (by omega) i z);have C:=qQ (fun W (T:Below w.1.size w W)=>XE u x W (r.below T (qK _)) (by omega));have N:=List.length_pos_iff.2 z;obtain⟨O,X,c2,rfl,-,-⟩:=r.form;unfold bN at C;clear h q o f B t r F i s z;generalize R.length=n at*;obtain⟨m,M⟩:∃m,m=x.length:=⟨_,rfl⟩
      rw[<-M]at d C N c1;have q8:(((m:Nat):Int)==0)=false:=qg.2 (by omega);have q9:(m==0)=false:=qg.2 (by omega);clear M N;go_enter func70,ntmps70;go_wp2_with fail;refine g.out.mono ?_;rintro e y⟨rfl,l⟩;have c:=qQ l;have H:=(l.cell (p:=⟨b,off+j,none⟩) a).trans c1;clear l c1;go_wp2_with fail;refine(C.out _ c.out).mono ?_;rintro e w2⟨P,S,rfl,I,J⟩;have Q:=qQ (d.out P S w2 (jy.down I c.out.size) (bj c.out J));clear I J;go_wp2;go_ret2;exact Q.out
    ·have L:R.getD j []=[]:=(by rw[qj,xX K];rfl);rw[L]at i;have d:=Qv (w:=w) (CG (k:=(j:Nat)) f (by omega) (by omega) i);have Y:decide (((R.length:Nat):Int)<=((j:Nat):Int))=true:=qB (by omega);have Z:decide (R.length<=j)=true:=qB K;clear h q o f B L i s;generalize R.length=n at*;go_enter func70,ntmps70;go_wp2_with fail;refine g.out.mono ?_;rintro e y⟨rfl,a⟩;have c:=qQ a;clear a;go_wp2;go_ret2;exact d.out _ c.out
theorem qJX(v:Value)(R:LvL)(n:Int)(w:World)(h:km w v R)(i:R.flatten.length<=100000)(q:R.length<=100000):
  Calls prog 68 #[v,n] w (dG w (kL R n) (yU R n)):=by
 have t:=qQ (Jc v R w h i q);have s:=qQ (fun W (B:Below w.1.size w W)=>Bn v R n W (h.below B (qK _)) i q);have r:=qQ (fun W (B:Below w.1.size w W)=>nR v R W (h.below B (qK _)) i q);cases f:ye R with
 | false =>
   obtain⟨b,c⟩:=CW (R:=R) (n:=n) (qX f);have A:=sV (w:=w) b c;rw[f]at t;clear h i q f b c s r;generalize kL R n=T at*;generalize yU R n=E at*;go_enter func68,ntmps68;go_wp2_with fail;refine t.out.mono ?_;rintro e H⟨rfl,a⟩;have d:=qQ a;clear a;go_wp2;go_ret2;exact A.out _ d.out
 | true =>
   rw[f]at t;by_cases j:n<0∨n∈R.flatten
   ·obtain⟨b,c⟩:=CW (R:=R) (n:=n) (qY j);have A:=sV (w:=w) b c
    have o:(decide (0<=n)&&!decide (n∈R.flatten))=false:=by
     rcases j with j|j
     ·rw[qA (by omega:¬0<=n)];rfl
     ·rw[qB j];simp
    rw[o]at s;clear h i q f b c r j o;generalize kL R n=T at*;generalize yU R n=E at*;go_enter func68,ntmps68;go_wp2_with fail;refine t.out.mono ?_;rintro e H⟨rfl,a⟩;have d:=qQ a;clear a;go_wp2_with fail;refine(s.out _ d.out).mono ?_;rintro e S⟨rfl,a⟩;have p:=qQ (bj d.out a);clear a;go_wp2;go_ret2;exact A.out _ p.out
   ·have C:0<=n:=(by omega);have F:n ∉ R.flatten:=fun e=>j (qY e)
    have o:(decide (0<=n)&&!decide (n∈R.flatten))=true:=(by rw[qB C,qA F];rfl);rw[o]at s;unfold bN at r;by_cases y:R.flatten.length=40
    ·obtain⟨b,c⟩:=qXg f C F y;have A:=sV (w:=w) b c;rw[y]at r;clear h i q f b c j o C F y;generalize kL R n=T at*;generalize yU R n=E at*;go_enter func68,ntmps68;go_wp2_with fail;refine t.out.mono ?_;rintro e H⟨rfl,a⟩;have d:=qQ a;clear a;go_wp2_with fail;refine(s.out _ d.out).mono ?_;rintro e S⟨rfl,a⟩;have p:=qQ (bj d.out a);clear a;go_wp2_with fail;refine(r.out _ p.out).mono ?_;rintro e w3⟨U,c3,rfl,-,a⟩;have z:=qQ (bj p.out a);clear a;go_wp2;go_ret2;exact A.out _ z.out
    ·obtain⟨b,c⟩:=qXb f C F y;obtain⟨G,ae⟩:=qXh f;have J:=qQ (fun W (B:Below w.1.size w W)=>Bw v R W (h.below B (qK _)) i G);have ac:=qQ (fun W W' g (o:bD W g 5 R R.length W')=>o.rows G)
     have ad:=qQ (show((vA R).getD 0 []).length<=100000 by
      rw[l8,qj];cases hx:R[0]? with
      | none=>exact qI _
      | some x=>have:=om hx;exact qR this i)
     have q1:(((R.flatten.length:Nat):Int)==40)=false:=qg.2 (by omega);have q2:(R.flatten.length==40)=false:=qg.2 y;have Z:=qQ b;have aa:=qQ c;unfold Qk at J;clear h i q f b c j o C F y G ae;generalize R.flatten=l at*;generalize l.length=m at*;generalize kL R n=T at*;generalize yU R n=E at*;go_enter func68,ntmps68;go_wp2_with fail;refine t.out.mono ?_;rintro e H⟨rfl,a⟩;have d:=qQ a;clear a;go_wp2_with fail;refine(s.out _ d.out).mono ?_;rintro e S⟨rfl,a⟩;have p:=qQ (bj d.out a);clear a;go_wp2_with fail;refine(r.out _ p.out).mono ?_;rintro e w3⟨U,c3,rfl,-,a⟩;have z:=qQ (bj p.out a);clear a;go_wp2_with fail;refine(J.out _ z.out).mono ?_;rintro e w4⟨g,rfl,Q⟩;obtain⟨A0,m0,c0,A4,c4,w5,a1,L,⟨u,a3⟩,a4,M⟩:=(ac.out _ _ _ Q).put (k:=0) (by omega) ad.out n 37;have K:=qQ M.trimmed;have X:=qQ L;rw[<-aa.out]at K;clear Q L M;go_wp2_with (first|(at_builtin;refine yC rfl _ _ rfl rfl rfl X.out ?_)|fail);refine K.out.mono ?_;rintro e w6⟨I,N,rfl,O,P⟩;have V:=qQ (O.down z.out.size);have Y:=qQ (bj z.out P);have ab:=qQ (show dG w T E (.returned (.tuple #[.slice I T.length N,.int .i64 0])) w6 from⟨I,N,by rw[Z.out],V.out,Y.out⟩);clear O P;go_wp2;go_ret2;exact ab.out
theorem qJZ(v:Value)(R:LvL)(k n:Int)(w:World)(h:km w v R)(o:R.flatten.length<=100000)(A:R.length<=100000):
  Calls prog 73 #[v,.int .i64 k,n] w (dG w (kh R k n) (yL R k n)):=by
 have z:=qQ (C8 v R k w h o A);have y:=qQ (fun W (C:Below w.1.size w W)=>Bn v R n W (h.below C (qK _)) o A);unfold nT at z;by_cases b:vH R k=0
 ·rw[b]at z;by_cases f:n<0∨n∈R.flatten
  ·obtain⟨c,d⟩:=qXd b f;have B:=sV (w:=w) c d
   have l:(decide (0<=n)&&!decide (n∈R.flatten))=false:=by
    rcases f with f|f
    ·rw[qA (by omega:¬0<=n)];rfl
    ·rw[qB f];simp
   rw[l]at y;clear h o A c d f l b;generalize kh R k n=T at*;generalize yL R k n=E at*;generalize kU R k=x at*;generalize x.length=m at*;go_enter func73,ntmps73;go_wp2_with fail;refine z.out.mono ?_;rintro e U⟨I,c1,rfl,-,a⟩;have j:=qQ a;clear a;go_wp2_with fail;refine KG (y.out _ j.out) fun w2 a=>?_;have s:=qQ (bj j.out a);clear a;go_wp2;go_ret2;exact B.out _ s.out
  ·have G:0<=n:=(by omega);have H:n ∉ R.flatten:=fun e=>f (qY e)
   have l:(decide (0<=n)&&!decide (n∈R.flatten))=true:=(by rw[qB G,qA H];rfl);rw[l]at y;obtain⟨c,d⟩:=qXf b G H;obtain⟨F,aa,ab,-,-⟩:=pT b;have K:=qQ (fun W (C:Below w.1.size w W)=>Bw v R W (h.below C (qK _)) o F.1);have Z:=qQ (fun W W' g (l:bD W g 5 R R.length W')=>l.rows F.1);have t:=qQ (fun i k=>qXm (R:=vA R) (fun k=>by rw[l8];exact qXl o k) i k);have X:=qQ c;have p:=qQ d;unfold Qk at K;clear h o A c d f l b F G H;generalize kh R k n=T at*;generalize yL R k n=E at*;generalize kU R k=x at*;generalize x.length=m at*;have hk:k=0∨k=1∨k=2∨k=3∨k=4:=(by omega);clear aa ab;have m1:min (1:Int) 4=1:=(by decide);have m2:min (2:Int) 4=2:=(by decide);have m3:min (3:Int) 4=3:=(by decide);have m4:min (4:Int) 4=4:=(by decide);have m5:min (5:Int) 4=4:=(by decide);rcases hk with rfl|rfl|rfl|rfl|rfl
   case' inl =>
    have q:=qQ (show T=jc (ug ((vA R).set 0 []) 1 n) from p.out);have r:=qQ (fun W wr g h=>sY (R:=R) (n:=n) (W:=W) (wr:=wr) (g:=g) t.out h 0 1 (by omega) (by omega))
   case' inr.inl =>
    have q:=qQ (show T=jc (ug ((vA R).set 1 []) 2 n) from p.out);have r:=qQ (fun W wr g h=>sY (R:=R) (n:=n) (W:=W) (wr:=wr) (g:=g) t.out h 1 2 (by omega) (by omega))
   case' inr.inr.inl =>
    have q:=qQ (show T=jc (ug ((vA R).set 2 []) 3 n) from p.out);have r:=qQ (fun W wr g h=>sY (R:=R) (n:=n) (W:=W) (wr:=wr) (g:=g) t.out h 2 3 (by omega) (by omega))
   case' inr.inr.inr.inl =>
    have q:=qQ (show T=jc (ug ((vA R).set 3 []) 4 n) from p.out);have r:=qQ (fun W wr g h=>sY (R:=R) (n:=n) (W:=W) (wr:=wr) (g:=g) t.out h 3 4 (by omega) (by omega))
   case' inr.inr.inr.inr =>
    have q:=qQ (show T=jc (ug ((vA R).set 4 []) 4 n) from p.out);have r:=qQ (fun W wr g h=>sY (R:=R) (n:=n) (W:=W) (wr:=wr) (g:=g) t.out h 4 4 (by omega) (by omega))
   all_goals
    clear p;go_enter func73,ntmps73;go_wp2_with fail;refine z.out.mono ?_;rintro e U⟨I,c1,rfl,-,a⟩;have j:=qQ a;clear a;go_wp2_with fail;refine KG (y.out _ j.out) fun w2 a=>?_;have s:=qQ (bj j.out a);clear a;go_wp2_with fail;refine(K.out _ s.out).mono ?_;rintro e w3⟨g,rfl,S⟩;obtain⟨u0,A0,m0,c0,A4,c4,w5,u,b1,b2,a1,M,a3,a4,N⟩:=r.out _ _ _ (Z.out _ _ _ S);clear S r;have L:=qQ N.trimmed;rw[<-q.out]at L;have V:=qQ M;clear M N q;go_wp2_with (first|(at_builtin;refine yC rfl _ _ rfl rfl rfl V.out ?_)|fail);refine L.out.mono ?_;rintro e w6⟨J,O,rfl,P,Q⟩;have Y:=qQ (show dG w T E (.returned (.tuple #[.slice J T.length O,.int .i64 0])) w6 from⟨J,O,by rw[X.out],P.down s.out.size,bj s.out Q⟩);clear P Q;go_wp2;go_ret2;exact Y.out
 ·obtain⟨c,d⟩:=qXc (n:=n) b;have B:=sV (w:=w) c d;have q1:(vH R k != 0)=true:=by simp[b]
  have q2:(vH R k==0)=false:=by simp[b]
  clear h o A c d b y;generalize kh R k n=T at*;generalize yL R k n=E at*;generalize vH R k=E' at*;generalize kU R k=x at*;generalize x.length=m at*;go_enter func73,ntmps73;go_wp2_with fail;refine z.out.mono ?_;rintro e U⟨I,c1,rfl,-,a⟩;have j:=qQ a;clear a;go_wp2;go_ret2;exact B.out _ j.out
end
end Go.Proofs.YthejglbnkmimjaaGreat

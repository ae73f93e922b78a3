import Derived.Test.YthejglbnkmimjaaGreatQp12
import Derived.Test.YthejglbnkmimjaaGreatQp13
set_option linter.unusedVariables false
set_option maxRecDepth 100000
set_option maxHeartbeats 9000000
namespace Go.Proofs.YthejglbnkmimjaaGreat
open Proofs.Tryz
section
open Go.RowKit
def bl(D:jD)(s:Tw):Nat × jD:=if (ji D jO s).1≠0 then ji D jO s else vI (ji D jO s).2 jO jh
theorem qZX{D:jD}{s:Tw}(h:(jx D jO).1≠0):bl D s=jx D jO:=by
 have e:ji D jO s=jx D jO:=by unfold ji;rw[qV h]
 unfold bl;rw[e,qV h]
theorem qZZ{D:jD}{s:Tw}(h:(jx D jO).1=0)(a:(jc (jx D jO).2 jO s).1≠0):bl D s=jc (jx D jO).2 jO s:=by
 have e:ji D jO s=jc (jx D jO).2 jO s:=by unfold ji;rw[qZ (by simp[h]),qV a]
 unfold bl;rw[e,qV a]
theorem qZJ{D:jD}{s:Tw}(h:(jx D jO).1=0)(a:(jc (jx D jO).2 jO s).1=0)(b:(kZ (jc (jx D jO).2 jO s).2 jO).1≠0):bl D s=kZ (jc (jx D jO).2 jO s).2 jO:=by
 have e:ji D jO s=kZ (jc (jx D jO).2 jO s).2 jO:=by unfold ji;rw[qZ (by simp[h]),qZ (by simp[a])]
 unfold bl;rw[e,qV b]
theorem qZK{D:jD}{s:Tw}(h:(jx D jO).1=0)(a:(jc (jx D jO).2 jO s).1=0)(b:(kZ (jc (jx D jO).2 jO s).2 jO).1=0):bl D s=vI (kZ (jc (jx D jO).2 jO s).2 jO).2 jO jh:=by
 have e:ji D jO s=kZ (jc (jx D jO).2 jO s).2 jO:=by unfold ji;rw[qZ (by simp[h]),qZ (by simp[a])]
 unfold bl;rw[e,qZ (by simp[b])]
section
variable {At:jR}(api:jS At){w0 w:World}{gd:Nat}{D:jD}{E:List Nat}
include api
theorem Be(h:DS At w0 gd D E w)(ok:WfP D):Calls prog 134 #[ptr gd] w (X0 (err (if D.down=true then 61 else 0)) w):=by
 have c:=h.size api ok ⟨#[109,97,112]⟩ (by decide);rcases so D ⟨#[109,97,112]⟩ with⟨f,g⟩|⟨f,g⟩
 ·rw[qV f];rw[g]at c;have d:=qQ c;clear c;go_enter func134,ntmps134;go_wp2_with fail;refine X5 d.out ?_;go_wp2;go_ret;exact⟨rfl,rfl⟩
 ·rw[qZ (by rw[f];decide)];have i:(((jk D ⟨#[109,97,112]⟩).2:Int)==1)=false:=by simp;omega
  have j:(((jk D ⟨#[109,97,112]⟩).2:Int)==61)=false:=by simp;omega
  have d:=qQ c;generalize (jk D ⟨#[109,97,112]⟩).1=a at*;generalize (jk D ⟨#[109,97,112]⟩).2=b at*;clear c g;go_enter func134,ntmps134;go_wp2_with fail;refine X5 d.out ?_;go_wp2;go_ret;exact⟨rfl,rfl⟩
theorem qZV(h:DS At w0 gd D E w)(ok:WfP D)(s:Tw)(A:s.size<=1099511627776):Calls prog 236 #[ptr gd,s] w (y9 At w0 gd (err (bl D s).1) (bl D s).2 E w):=by
 have f:Calls prog 201 #[ptr gd,.string ⟨#[110,101,119]⟩] w (y9 At w0 gd (err (jx D jO).1) (jx D jO).2 E w):=h.xD api (fun F hF=>api.create jO hF ok.ok (by decide));have o:=lT ok jO;have p:=l5 o jO s;have C:=mq p jO;have j:∀W,DS At w0 gd (jx D jO).2 E W->Calls prog 203 #[ptr gd,.string ⟨#[110,101,119]⟩,s] W (y9 At w0 gd (err (jc (jx D jO).2 jO s).1) (jc (jx D jO).2 jO s).2 E W):=fun W z=>z.xD api (fun F hF=>api.append jO s hF o.ok A (by decide))
 have n:∀W,DS At w0 gd (jc (jx D jO).2 jO s).2 E W->Calls prog 160 #[ptr gd,.string ⟨#[110,101,119]⟩] W (y9 At w0 gd (err (kZ (jc (jx D jO).2 jO s).2 jO).1) (kZ (jc (jx D jO).2 jO s).2 jO).2 E W):=fun W z=>z.xD api (fun F hF=>api.sync jO hF p.ok (by decide))
 have B:∀W,DS At w0 gd (kZ (jc (jx D jO).2 jO s).2 jO).2 E W->Calls prog 245 #[ptr gd,.string ⟨#[110,101,119]⟩,.string ⟨#[109,97,112]⟩] W (y9 At w0 gd (err (vI (kZ (jc (jx D jO).2 jO s).2 jO).2 jO jh).1) (vI (kZ (jc (jx D jO).2 jO s).2 jO).2 jO jh).2 E W):=fun W z=>z.xD api (fun F hF=>api.rename jO jh hF C.ok (by decide) (by decide))
 by_cases d:(jx D jO).1=0
 case neg =>
  rw[qZX d];have t:(((jx D jO).1:Int) != 0)=true:=by simp;omega
  generalize jx D jO=Q at*;generalize Q.1=y at*;have l:=qQ f;clear f j n B h ok o p C d A;go_enter func236,ntmps236;go_wp2_with fail;refine l.out.mono ?_;rintro e I⟨rfl,b,c⟩;have a:=qQ (qG b c);clear b c;go_wp2;go_ret;exact⟨rfl,a.out.1,a.out.2⟩
 rw[d]at f;by_cases m:(jc (jx D jO).2 jO s).1=0
 case neg =>
  rw[qZZ d m];have t:(((jc (jx D jO).2 jO s).1:Int) != 0)=true:=by simp;omega
  generalize jc (jx D jO).2 jO s=R at*;generalize (jx D jO).2=J at*;generalize R.1=y at*;have l:=qQ f;have r:=qQ j;clear f j n B h ok o p C d m A;go_enter func236,ntmps236;go_wp2_with fail;refine l.out.mono ?_;rintro e I⟨rfl,b,c⟩;have a:=qQ (qG b c);clear b c;go_wp2_with fail;refine(r.out _ a.out.1).mono ?_;rintro e N⟨rfl,i,k⟩;have g:=qQ (qG i k);clear i k;go_wp2;go_ret;exact⟨rfl,g.out.1,a.out.2.trans g.out.2⟩
 rw[m]at j;by_cases v:(kZ (jc (jx D jO).2 jO s).2 jO).1=0
 case neg =>
  rw[qZJ d m v];have t:(((kZ (jc (jx D jO).2 jO s).2 jO).1:Int) != 0)=true:=by simp;omega
  generalize kZ (jc (jx D jO).2 jO s).2 jO=S at*;generalize (jc (jx D jO).2 jO s).2=O at*;generalize (jx D jO).2=J at*;generalize S.1=y at*;have l:=qQ f;have r:=qQ j;have H:=qQ n;clear f j n B h ok o p C d m v A;go_enter func236,ntmps236;go_wp2_with fail;refine l.out.mono ?_;rintro e I⟨rfl,b,c⟩;have a:=qQ (qG b c);clear b c;go_wp2_with fail;refine(r.out _ a.out.1).mono ?_;rintro e N⟨rfl,i,k⟩;have g:=qQ (qG i k);clear i k;go_wp2_with fail;refine(H.out _ g.out.1).mono ?_;rintro e T⟨rfl,u,G⟩;have q:=qQ (qG u G);clear u G;go_wp2;go_ret;exact⟨rfl,q.out.1,(a.out.2.trans g.out.2).trans q.out.2⟩
 rw[qZK d m v];rw[v]at n;generalize vI (kZ (jc (jx D jO).2 jO s).2 jO).2 jO jh=V at*;generalize (kZ (jc (jx D jO).2 jO s).2 jO).2=U at*;generalize (jc (jx D jO).2 jO s).2=O at*;generalize (jx D jO).2=J at*;have l:=qQ f;have r:=qQ j;have H:=qQ n;have P:=qQ B;clear f j n B h ok o p C d m v A;go_enter func236,ntmps236;go_wp2_with fail;refine l.out.mono ?_;rintro e I⟨rfl,b,c⟩;have a:=qQ (qG b c);clear b c;go_wp2_with fail;refine(r.out _ a.out.1).mono ?_;rintro e N⟨rfl,i,k⟩;have g:=qQ (qG i k);clear i k;go_wp2_with fail;refine(H.out _ g.out.1).mono ?_;rintro e T⟨rfl,u,G⟩;have q:=qQ (qG u G);clear u G;go_wp2_with fail;refine(P.out _ q.out.1).mono ?_;rintro e X⟨rfl,L,M⟩;have K:=qQ (qG L M);clear L M;go_wp2;go_ret;exact⟨rfl,K.out.1,((a.out.2.trans g.out.2).trans q.out.2).trans K.out.2⟩
end
theorem qZY{x:Tw}(h:vq x=true):npK x=99∨npK x=116∨npK x=98:=by
 obtain⟨c,l,-,-,a,-,e,-⟩:=Xk h;rw[e];unfold isK at a;simp only[Bool.or_eq_true,beq_iff_eq]at a;rcases a with(rfl|rfl)|rfl
 ·exact qX rfl
 ·exact qY (qX rfl)
 ·exact qY (qY rfl)
theorem qZU(p:jw)(x:Tw)(v:Value)(b:List Int)(w:World)(k:x.size<=maxLen)(g:kF w v b)(j:b.length<=1000000):
  Calls prog 194 #[x,v] w (X3 (.bool (vq x&&!decide (npK x=99)&&!decide ((npN x:Int)∈b))) w):=by
 have d:=qQ (p.parse x w k);have c:=qQ (fun W (o:Below w.1.size w W)=>QI v b (npN x:Nat) W (g.below o (qK _)) j);have f:=@qZY x;obtain⟨A,off,r,rfl,-,-⟩:=g.cell;generalize decide ((npN x:Int)∈b)=q at*;generalize vq x=ok at*;generalize npK x=s at*;generalize npN x=t at*;clear g j k;generalize b.length=m at*;cases ok with
 | false =>
   rw[Bool.false_and,Bool.false_and];clear f c;go_enter func194,ntmps194;go_wp2_with fail;refine d.out.mono ?_;rintro e i⟨rfl,a⟩;go_wp2;go_ret;exact⟨rfl,a⟩
 | true =>
   rcases f rfl with rfl|rfl|rfl
   ·rw[qB rfl];clear f c;go_enter func194,ntmps194;go_wp2_with fail;refine d.out.mono ?_;rintro e i⟨rfl,a⟩;go_wp2;go_ret;exact⟨rfl,a⟩
   all_goals
    rw[qA (by decide)];clear f;go_enter func194,ntmps194;go_wp2_with fail;refine d.out.mono ?_;rintro e i⟨rfl,a⟩;have n:=qQ (c.out i a);have l:=qQ a;clear a c d;go_wp2_with fail;refine n.out.mono ?_;rintro e u⟨rfl,rfl⟩;go_wp2;go_ret;exact⟨by cases q<;>rfl,l.out⟩
end
end Go.Proofs.YthejglbnkmimjaaGreat

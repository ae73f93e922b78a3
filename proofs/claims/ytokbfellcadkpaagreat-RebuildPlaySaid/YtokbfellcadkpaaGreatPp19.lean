import Derived.Test.YtokbfellcadkpaaGreatPp14
import Derived.Test.YtokbfellcadkpaaGreatPp15
set_option linter.unusedVariables false
set_option maxRecDepth 100000
set_option maxHeartbeats 9000000
namespace Go.Proofs.YtokbfellcadkpaaGreat
open Tryz
section
open Go.RowKit
def bO(D:jK)(s:Tw):Nat × jK:=if (jk D jB s).1≠0 then jk D jB s else vD (jk D jB s).2 jB jC
theorem qZr{D:jK}{s:Tw}(h:(jP D jB).1≠0):bO D s=jP D jB:=by
 have e:jk D jB s=jP D jB:=by unfold jk;rw[qV h]
 unfold bO;rw[e,qV h]
theorem qZs{D:jK}{s:Tw}(h:(jP D jB).1=0)(a:(j9 (jP D jB).2 jB s).1≠0):bO D s=j9 (jP D jB).2 jB s:=by
 have e:jk D jB s=j9 (jP D jB).2 jB s:=by unfold jk;rw[qZ (by simp[h]),qV a]
 unfold bO;rw[e,qV a]
theorem qZt{D:jK}{s:Tw}(h:(jP D jB).1=0)(a:(j9 (jP D jB).2 jB s).1=0)(b:(jc (j9 (jP D jB).2 jB s).2 jB).1≠0):bO D s=jc (j9 (jP D jB).2 jB s).2 jB:=by
 have e:jk D jB s=jc (j9 (jP D jB).2 jB s).2 jB:=by unfold jk;rw[qZ (by simp[h]),qZ (by simp[a])]
 unfold bO;rw[e,qV b]
theorem qZa{D:jK}{s:Tw}(h:(jP D jB).1=0)(a:(j9 (jP D jB).2 jB s).1=0)(b:(jc (j9 (jP D jB).2 jB s).2 jB).1=0):bO D s=vD (jc (j9 (jP D jB).2 jB s).2 jB).2 jB jC:=by
 have e:jk D jB s=jc (j9 (jP D jB).2 jB s).2 jB:=by unfold jk;rw[qZ (by simp[h]),qZ (by simp[a])]
 unfold bO;rw[e,qZ (by simp[b])]
section
variable {At:jL}(api:jM At){w0 w:World}{gd:Nat}{D:jK}{E:List Nat}
include api
theorem CH(h:DS At w0 gd D E w)(ok:WfP D):Calls prog 88 #[ptr gd] w fun e w'=>e = .returned (err (if D.down=true then 61 else 0))/\w=w':=by
 have c:=h.size api ok ⟨#[109,97,112]⟩ (by decide);rcases sg D ⟨#[109,97,112]⟩ with⟨f,g⟩|⟨f,g⟩
 ·rw[qV f];rw[g]at c;have d:=qQ c;clear c;go_enter func88,ntmps88;go_wp2_with fail;refine d.out.mono ?_;rintro e w'⟨rfl,rfl⟩;go_wp2;go_ret;exact⟨rfl,rfl⟩
 ·rw[qZ (by rw[f];decide)];have i:(((jH D ⟨#[109,97,112]⟩).2:Int)==1)=false:=by simp;omega
  have j:(((jH D ⟨#[109,97,112]⟩).2:Int)==61)=false:=by simp;omega
  have d:=qQ c;generalize (jH D ⟨#[109,97,112]⟩).1=a at*;generalize (jH D ⟨#[109,97,112]⟩).2=b at*;clear c g;go_enter func88,ntmps88;go_wp2_with fail;refine d.out.mono ?_;rintro e w'⟨rfl,rfl⟩;go_wp2;go_ret;exact⟨rfl,rfl⟩
theorem qZe(h:DS At w0 gd D E w)(ok:WfP D)(s:Tw)(A:s.size<=1099511627776):Calls prog 206 #[ptr gd,.string s] w (yX At w0 gd (err (bO D s).1) (bO D s).2 E w):=by
 have f:Calls prog 129 #[ptr gd,.string ⟨#[110,101,119]⟩] w (yX At w0 gd (err (jP D jB).1) (jP D jB).2 E w):=h.qi api (fun F hF=>api.create jB hF ok.ok (by decide));have o:=lO ok jB;have p:=lP o jB s;have C:=mD p jB;have j:∀W,DS At w0 gd (jP D jB).2 E W->Calls prog 131 #[ptr gd,.string ⟨#[110,101,119]⟩,.string s] W (yX At w0 gd (err (j9 (jP D jB).2 jB s).1) (j9 (jP D jB).2 jB s).2 E W):=fun W z=>z.qi api (fun F hF=>api.append jB s hF o.ok A (by decide))
 have n:∀W,DS At w0 gd (j9 (jP D jB).2 jB s).2 E W->Calls prog 147 #[ptr gd,.string ⟨#[110,101,119]⟩] W (yX At w0 gd (err (jc (j9 (jP D jB).2 jB s).2 jB).1) (jc (j9 (jP D jB).2 jB s).2 jB).2 E W):=fun W z=>z.qi api (fun F hF=>api.sync jB hF p.ok (by decide))
 have B:∀W,DS At w0 gd (jc (j9 (jP D jB).2 jB s).2 jB).2 E W->Calls prog 190 #[ptr gd,.string ⟨#[110,101,119]⟩,.string ⟨#[109,97,112]⟩] W (yX At w0 gd (err (vD (jc (j9 (jP D jB).2 jB s).2 jB).2 jB jC).1) (vD (jc (j9 (jP D jB).2 jB s).2 jB).2 jB jC).2 E W):=fun W z=>z.qi api (fun F hF=>api.rename jB jC hF C.ok (by decide) (by decide))
 by_cases d:(jP D jB).1=0
 case neg =>
  rw[qZr d];have t:(((jP D jB).1:Int) != 0)=true:=by simp;omega
  generalize jP D jB=Q at*;generalize Q.1=y at*;have l:=qQ f;clear f j n B h ok o p C d A;go_enter func206,ntmps206;go_wp2_with fail;refine l.out.mono ?_;rintro e I⟨rfl,b,c⟩;have a:=qQ (qU b c);clear b c;go_wp2;go_ret;exact⟨rfl,a.out.1,a.out.2⟩
 rw[d]at f;by_cases m:(j9 (jP D jB).2 jB s).1=0
 case neg =>
  rw[qZs d m];have t:(((j9 (jP D jB).2 jB s).1:Int) != 0)=true:=by simp;omega
  generalize j9 (jP D jB).2 jB s=R at*;generalize (jP D jB).2=J at*;generalize R.1=y at*;have l:=qQ f;have r:=qQ j;clear f j n B h ok o p C d m A;go_enter func206,ntmps206;go_wp2_with fail;refine l.out.mono ?_;rintro e I⟨rfl,b,c⟩;have a:=qQ (qU b c);clear b c;go_wp2_with fail;refine(r.out _ a.out.1).mono ?_;rintro e N⟨rfl,i,k⟩;have g:=qQ (qU i k);clear i k;go_wp2;go_ret;exact⟨rfl,g.out.1,a.out.2.trans g.out.2⟩
 rw[m]at j;by_cases v:(jc (j9 (jP D jB).2 jB s).2 jB).1=0
 case neg =>
  rw[qZt d m v];have t:(((jc (j9 (jP D jB).2 jB s).2 jB).1:Int) != 0)=true:=by simp;omega
  generalize jc (j9 (jP D jB).2 jB s).2 jB=S at*;generalize (j9 (jP D jB).2 jB s).2=O at*;generalize (jP D jB).2=J at*;generalize S.1=y at*;have l:=qQ f;have r:=qQ j;have H:=qQ n;clear f j n B h ok o p C d m v A;go_enter func206,ntmps206;go_wp2_with fail;refine l.out.mono ?_;rintro e I⟨rfl,b,c⟩;have a:=qQ (qU b c);clear b c;go_wp2_with fail;refine(r.out _ a.out.1).mono ?_;rintro e N⟨rfl,i,k⟩;have g:=qQ (qU i k);clear i k;go_wp2_with fail;refine(H.out _ g.out.1).mono ?_;rintro e T⟨rfl,u,G⟩;have q:=qQ (qU u G);clear u G;go_wp2;go_ret;exact⟨rfl,q.out.1,(a.out.2.trans g.out.2).trans q.out.2⟩
 rw[qZa d m v];rw[v]at n;generalize vD (jc (j9 (jP D jB).2 jB s).2 jB).2 jB jC=V at*;generalize (jc (j9 (jP D jB).2 jB s).2 jB).2=U at*;generalize (j9 (jP D jB).2 jB s).2=O at*;generalize (jP D jB).2=J at*;have l:=qQ f;have r:=qQ j;have H:=qQ n;have P:=qQ B;clear f j n B h ok o p C d m v A;go_enter func206,ntmps206;go_wp2_with fail;refine l.out.mono ?_;rintro e I⟨rfl,b,c⟩;have a:=qQ (qU b c);clear b c;go_wp2_with fail;refine(r.out _ a.out.1).mono ?_;rintro e N⟨rfl,i,k⟩;have g:=qQ (qU i k);clear i k;go_wp2_with fail;refine(H.out _ g.out.1).mono ?_;rintro e T⟨rfl,u,G⟩;have q:=qQ (qU u G);clear u G;go_wp2_with fail;refine(P.out _ q.out.1).mono ?_;rintro e X⟨rfl,L,M⟩;have K:=qQ (qU L M);clear L M;go_wp2;go_ret;exact⟨rfl,K.out.1,((a.out.2.trans g.out.2).trans q.out.2).trans K.out.2⟩
end
theorem qZi{x:Tw}(h:ku x=true):npK x=99∨npK x=116∨npK x=98:=by
 obtain⟨c,l,-,-,a,-,e,-⟩:=Xb h;rw[e];unfold isK at a;simp only[Bool.or_eq_true,beq_iff_eq]at a;rcases a with(rfl|rfl)|rfl
 ·exact qX rfl
 ·exact qY (qX rfl)
 ·exact qY (qY rfl)
theorem qZo(o:jm)(x:Tw)(v:Value)(fl:List Int)(w:World)(j:x.size<=maxLen)(f:kX w v fl)(i:fl.length<=1000000):
  Calls prog 156 #[.string x,v] w fun e w'=>e = .returned (.bool (ku x&&!decide (npK x=99)&&!decide ((npN x:Int)∈fl)))/\Below w.heap.size w w':=by
 have c:=qQ (o.parse x w j);have b:=qQ (fun W (n:Below w.heap.size w W)=>QA v fl (npN x:Nat) W (f.below n (qK _)) i);have d:=@qZi x;obtain⟨A,off,p,rfl,-,-⟩:=f.cell;generalize decide ((npN x:Int)∈fl)=q at*;generalize ku x=ok at*;generalize npK x=r at*;generalize npN x=s at*;clear f i j;generalize fl.length=m at*;cases ok with
 | false =>
   rw[Bool.false_and,Bool.false_and];clear d b;go_enter func156,ntmps156;go_wp2_with fail;refine c.out.mono ?_;rintro e g⟨rfl,a⟩;go_wp2;go_ret;exact⟨rfl,a⟩
 | true =>
   rcases d rfl with rfl|rfl|rfl
   ·rw[qA rfl];clear d b;go_enter func156,ntmps156;go_wp2_with fail;refine c.out.mono ?_;rintro e g⟨rfl,a⟩;go_wp2;go_ret;exact⟨rfl,a⟩
   all_goals
    rw[qW (by decide)];clear d;go_enter func156,ntmps156;go_wp2_with fail;refine c.out.mono ?_;rintro e g⟨rfl,a⟩;have l:=qQ (b.out g a);have k:=qQ a;clear a b c;go_wp2_with fail;refine l.out.mono ?_;rintro e t⟨rfl,rfl⟩;go_wp2;go_ret;exact⟨by cases q<;>rfl,k.out⟩
end
end Go.Proofs.YtokbfellcadkpaaGreat

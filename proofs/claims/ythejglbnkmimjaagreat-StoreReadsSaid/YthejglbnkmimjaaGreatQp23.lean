import Derived.Test.YthejglbnkmimjaaGreatQp03
import Derived.Test.YthejglbnkmimjaaGreatQp19
set_option linter.unusedVariables false
set_option maxRecDepth 100000
set_option maxHeartbeats 9000000
namespace Go.Proofs.YthejglbnkmimjaaGreat
open Proofs.Tryz
section
open Go.RowKit
theorem J6(n p:Int)(w:World):
  Calls prog 264 #[n,p] w (X0 (.bool (bV n p)) w):=by
 have a:=@sa n p;generalize bV n p=q at*;by_cases l:n<1
 ·obtain rfl:q=false:=Bool.eq_false_iff.2 (fun e=>by have:=a.1 e;omega);go_enter func264,ntmps264;go_wp2;go_ret;exact⟨rfl,rfl⟩
 ·by_cases m:120000<n
  ·obtain rfl:q=false:=Bool.eq_false_iff.2 (fun e=>by have:=a.1 e;omega);go_enter func264,ntmps264;go_wp2;go_ret;exact⟨rfl,rfl⟩
  ·have o:decide (n<1)=false:=qA l;have r:decide (120000<n)=false:=qA m;have s:¬n<0:=(by omega);have d:0<=n:=(by omega);by_cases c:n%60=0
   ·have b:(n%60 != 0)=false:=(by rw[c];rfl);have k:(n.tmod 60 != 0)=false:=(by rw[Int.tmod_eq_emod_of_nonneg d];exact b);by_cases f:1<=p
    ·have i:decide (1<=p)=true:=qB f;by_cases g:p<=16
     ·obtain rfl:q=true:=a.2 (by omega);have j:decide (p<=16)=true:=qB g;clear a;go_enter func264,ntmps264;go_wp2;go_ret;exact⟨rfl,rfl⟩
     ·obtain rfl:q=false:=Bool.eq_false_iff.2 (fun e=>by have:=a.1 e;omega);have j:decide (p<=16)=false:=qA g;clear a;go_enter func264,ntmps264;go_wp2;go_ret;exact⟨rfl,rfl⟩
    ·obtain rfl:q=false:=Bool.eq_false_iff.2 (fun e=>by have:=a.1 e;omega);have i:decide (1<=p)=false:=qA f;clear a;go_enter func264,ntmps264;go_wp2;go_ret;exact⟨rfl,rfl⟩
   ·obtain rfl:q=false:=Bool.eq_false_iff.2 (fun e=>by have:=a.1 e;omega);have b:(n%60 != 0)=true:=(by rw[bne_iff_ne];exact c);have k:(n.tmod 60 != 0)=true:=(by rw[Int.tmod_eq_emod_of_nonneg d];exact b);clear a c;go_enter func264,ntmps264;go_wp2;go_ret;exact⟨rfl,rfl⟩
theorem qZv: (⟨(Lib.repeatL (⟨#[0]⟩:Tw).data.toList 52).toArray⟩:Tw)=bs (List.replicate 52 0):=by decide
theorem CX(n p:Nat)(w:World)(G:n<4294967296)(H:p<256):
  Calls prog 265 #[n,p] w (X3 (.string (hdP n p)) w):=by
 have l:=qQ fun W=>show Calls prog 142 #[.int .u64 (p:Nat),.int .i64 1] W _ from bK p 1 W (by omega) (by omega) (by omega)
 have m:=qQ fun W=>show Calls prog 142 #[.int .u64 (n:Nat),.int .i64 4] W _ from bK n 4 W (by omega) (by omega) (by omega)
 have d:=qQ fun W=>show Calls prog 297 #[.string ⟨#[0]⟩,.int .i64 52] W _ from Tryz.rep_any ⟨#[0]⟩ 52 W (by omega) (by decide)
 rw[qZv]at d;have a:(bs (be 1 p)).size=1:=by rw[kK,jn]
 have b:(bs (be 4 n)).size=4:=by rw[kK,jn]
 have j:(bs (List.replicate 52 0)).size=52:=by rw[kK,List.length_replicate]
 have C:∀W:World,(Op.stringOp .add ⟨#[98,108,109]⟩ (bs (be 1 p))).run prog W=.ok (.string ((⟨#[98,108,109]⟩:Tw)++bs (be 1 p))) W:=fun W=>run_string_add_sum (P:=prog) (w:=W) _ _ (by rw[a];decide)
 have c:((⟨#[98,108,109]⟩:Tw)++bs (be 1 p)).size=4:=by rw[qx,a];rfl
 have D:∀W:World,(Op.stringOp .add ((⟨#[98,108,109]⟩:Tw)++bs (be 1 p)) (bs (be 4 n))).run prog W=.ok (.string ((⟨#[98,108,109]⟩:Tw)++bs (be 1 p)++bs (be 4 n))) W:=fun W=>run_string_add_sum (P:=prog) (w:=W) _ _ (by rw[c,b];decide)
 have k:((⟨#[98,108,109]⟩:Tw)++bs (be 1 p)++bs (be 4 n)).size=8:=by rw[qx,c,b]
 have g:(⟨#[98,108,109]⟩:Tw)++bs (be 1 p)++bs (be 4 n)++bs (List.replicate 52 0)=bs (hdL n p):=by
  have u:(⟨#[98,108,109]⟩:Tw)=bs [98,108,109]:=rfl;have v:be 1 p=[UInt8.ofNat p]:=by simp[be]
  rw[u,v,cZ,cZ,cZ];unfold hdL;simp
 have F:∀W:World,(Op.stringOp .add ((⟨#[98,108,109]⟩:Tw)++bs (be 1 p)++bs (be 4 n)) (bs (List.replicate 52 0))).run prog W=.ok (.string (bs (hdL n p))) W:=fun W=>by rw[<-g];exact run_string_add_sum (P:=prog) (w:=W) _ _ (by rw[k,j];decide)
 have f:=qQ fun W=>nh (bs (hdL n p)) W (by rw[kK,VA];decide)
 have i:hdP n p=vO (bs (hdL n p)):=rfl;rw[<-i]at f;clear g i;generalize hdP n p=R at*;generalize bs (hdL n p)=B at*;generalize bs (List.replicate 52 0)=Z at*;generalize (⟨#[98,108,109]⟩:Tw)++bs (be 1 p)++bs (be 4 n)=o at*;generalize (⟨#[98,108,109]⟩:Tw)++bs (be 1 p)=A at*;generalize bs (be 1 p)=z at*;generalize bs (be 4 n)=y at*;have I:IntKind.u64.wrap ((p:Nat):Int)=(p:Nat):=IntWalk.u64_in _ ⟨by omega,by omega⟩;have J:IntKind.u64.wrap ((n:Nat):Int)=(n:Nat):=IntWalk.u64_in _ ⟨by omega,by omega⟩;have K:((o.size:Nat):Int)=8:=by omega
 have L:(p:Int)%18446744073709551616=(p:Int):=by omega
 have M:(n:Int)%18446744073709551616=(n:Int):=by omega
 clear a b j c k;go_enter func265,ntmps265;go_wp2_with fail;refine(l.out _).mono ?_;rintro e N⟨rfl,q⟩;go_wp2_with fail;refine(m.out _).mono ?_;rintro e O⟨rfl,r⟩;go_wp2_with fail;refine(d.out _).mono ?_;rintro e Q⟨rfl,s⟩;go_wp2_with fail;refine(f.out _).mono ?_;rintro e S⟨rfl,t⟩;go_wp2;go_ret;exact⟨rfl,bj (bj (bj q r) s) t⟩
theorem qZy(a:Tw)(p:Int)(w:World)(h:bV a.size p=false):
  Calls prog 229 #[a,p] w (X3 (.string (fu a p)) w):=by
 rw[VF h];have b:=qQ fun W=>J6 a.size p W
 rw[h]at b;go_enter func229,ntmps229;go_wp2_with fail;refine(b.out _).mono ?_;rintro e c⟨rfl,rfl⟩;go_wp2;go_ret;exact⟨rfl,qU _ _⟩
theorem qZu(a:Tw)(p m:Nat)(w:World)(h:bV a.size p=true)(t:a.size=60*m)(S:m<=2000)(T:p<=16):
  Calls prog 229 #[a,p] w (X3 (.string (hdP a.size p++pgs a m)) w):=by
 have j:=qQ fun W=>J6 a.size p W
 rw[h]at j;have C:=qQ fun W=>CX a.size p W (by omega) (by omega)
 have G:=VB a.size p;have B:∀k,k<=m->(pgs a k).size=64*k:=fun k f=>Xq a k (by omega)
 have D:=qQ fun(k:Nat) (W:World) (f:k<m)=>nh (a.extract (60*k) (60*k+60)) W (by rw[qk];unfold maxLen;omega)
 have A:∀k,k<m->(vO (a.extract (60*k) (60*k+60))).size=64:=fun k f=>by rw[l7,qk];omega
 have q:=Wrt.fresh w;have L:=qQ (VE a);have u:pgs a 0=ByteArray.empty:=rfl;generalize hdP a.size p=n at*;have c:=qQ t;clear t h;go_enter func229,ntmps229;go_wp2_with fail;refine(j.out _).mono ?_;rintro e O⟨rfl,rfl⟩;go_wp2_with fail;refine(C.out _).mono ?_;rintro e O⟨rfl,r⟩;have d:=qQ ((q.below r).write n (by rw[G];decide));clear q r;go_wp2_with fail;refine d.out.mono ?_;rintro e X⟨rfl,g⟩;rw[ByteArray.empty_append]at g;clear d;have R:((a.size:Nat):Int)<=120000:=by have:=c.out;omega
 go_wp2_with fail;go_loopw [6] (fun v wr=>∃k:Nat,k<=m/\v=.int .i64 ((60*k:Nat):Int)/\Wrt w (n++pgs a k) wr) (fun v _=>60*m+1-(intOf v).toNat)
 case atStart=>exact⟨0,qI _,rfl,by rw[u,ByteArray.append_empty];exact g⟩
 case round =>
  clear g u;obtain⟨k,f,rfl,s⟩:=hrel;obtain⟨y,b⟩:∃y,60*k=y:=⟨_,rfl⟩
  by_cases i:k<m
  ·have l:=qQ fun W=>D.out k W i
   have M:=A k i;have z:=L.out k;have U:=B k f;rw[b]at l M z;generalize vO (a.extract y (y+60))=H at*;generalize pgs a k=Q at*;have N:(y:Int)<(a.size:Int):=(by have:=c.out;omega);have V:(y:Int)+60<=(a.size:Int):=(by have:=c.out;omega);rw[b];have o:=qQ b;clear b A B;go_wp2_with fail;refine(l.out _).mono ?_;rintro e Y⟨rfl,J⟩;have d:=qQ ((s.below J).write H (by rw[qx];omega));go_wp2_with fail;refine d.out.mono ?_;rintro e P⟨rfl,I⟩;go_wp2;go_roundw
   case rel=>exact⟨k+1,i,by rw[show 60*(k+1)=y+60 by have:=o.out;omega];go_num,by rw[z,<-ByteArray.append_assoc];exact I⟩
   case measure =>
    have:=o.out;simp[intOf];omega
  ·obtain rfl:k=m:=(by omega);have N:(a.size:Int)<=(y:Int):=(by have:=c.out;omega);rw[b];have F:=qQ s.told;go_wp2_with fail;refine F.out.mono ?_;rintro e P⟨rfl,K⟩;go_wp2;go_ret;exact⟨rfl,K⟩
theorem qZg(a:Tw)(p:Int)(w:World):
  Calls prog 229 #[a,p] w (X3 (.string (fu a p)) w):=by
 cases h:bV a.size p with
 | false=>exact qZy a p w h
 | true =>
   obtain⟨b,c,d,f,g⟩:=sa.1 h;obtain⟨q,rfl⟩:∃q:Nat,p=q:=⟨p.toNat,by omega⟩
   rw[VH h,qm];exact qZu a q (a.size/60) w h (by omega) (by omega) (by omega)
end
end Go.Proofs.YthejglbnkmimjaaGreat

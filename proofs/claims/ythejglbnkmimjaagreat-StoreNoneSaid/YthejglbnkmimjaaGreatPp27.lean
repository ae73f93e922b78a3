import Derived.Test.YthejglbnkmimjaaGreatPp03
import Derived.Test.YthejglbnkmimjaaGreatPp24
import Derived.Test.YthejglbnkmimjaaGreatPp22
set_option linter.unusedVariables false
set_option maxRecDepth 100000
set_option maxHeartbeats 9000000
namespace Go.Proofs.YthejglbnkmimjaaGreat
open Tryz
section
open Go.RowKit
theorem Pg(n p:Int)(w:World):
  Calls prog 264 #[.int .i64 n,.int .i64 p] w fun e w'=>e = .returned (.bool (dZ n p))/\w=w':=by
 have a:=@rB n p;generalize dZ n p=q at*;by_cases l:n<1
 ·obtain rfl:q=false:=Bool.eq_false_iff.2 (fun e=>by have:=a.1 e;omega);go_enter func264,ntmps264;go_wp2;go_ret;exact⟨rfl,rfl⟩
 ·by_cases m:120000<n
  ·obtain rfl:q=false:=Bool.eq_false_iff.2 (fun e=>by have:=a.1 e;omega);go_enter func264,ntmps264;go_wp2;go_ret;exact⟨rfl,rfl⟩
  ·have o:decide (n<1)=false:=qG l;have r:decide (120000<n)=false:=qG m;have s:¬n<0:=(by omega);have d:0<=n:=(by omega);by_cases c:n%60=0
   ·have b:(n%60 != 0)=false:=(by rw[c];rfl);have k:(n.tmod 60 != 0)=false:=(by rw[Int.tmod_eq_emod_of_nonneg d];exact b);by_cases f:1<=p
    ·have i:decide (1<=p)=true:=qW f;by_cases g:p<=16
     ·obtain rfl:q=true:=a.2 (by omega);have j:decide (p<=16)=true:=qW g;clear a;go_enter func264,ntmps264;go_wp2;go_ret;exact⟨rfl,rfl⟩
     ·obtain rfl:q=false:=Bool.eq_false_iff.2 (fun e=>by have:=a.1 e;omega);have j:decide (p<=16)=false:=qG g;clear a;go_enter func264,ntmps264;go_wp2;go_ret;exact⟨rfl,rfl⟩
    ·obtain rfl:q=false:=Bool.eq_false_iff.2 (fun e=>by have:=a.1 e;omega);have i:decide (1<=p)=false:=qG f;clear a;go_enter func264,ntmps264;go_wp2;go_ret;exact⟨rfl,rfl⟩
   ·obtain rfl:q=false:=Bool.eq_false_iff.2 (fun e=>by have:=a.1 e;omega);have b:(n%60 != 0)=true:=(by rw[bne_iff_ne];exact c);have k:(n.tmod 60 != 0)=true:=(by rw[Int.tmod_eq_emod_of_nonneg d];exact b);clear a c;go_enter func264,ntmps264;go_wp2;go_ret;exact⟨rfl,rfl⟩
theorem Pb: (⟨(Lib.repeatL (⟨#[0]⟩:Tw).data.toList 52).toArray⟩:Tw)=bs (List.replicate 52 0):=by decide
theorem Pc(n p:Nat)(w:World)(G:n<4294967296)(H:p<256):
  Calls prog 265 #[.int .i64 (n:Nat),.int .i64 (p:Nat)] w fun e w'=>e = .returned (.string (hdP n p))/\Below w.heap.size w w':=by
 have l:=qQ fun W=>show Calls prog 142 #[.int .u64 (p:Nat),.int .i64 1] W _ from uL p 1 W (by omega) (by omega) (by omega)
 have m:=qQ fun W=>show Calls prog 142 #[.int .u64 (n:Nat),.int .i64 4] W _ from uL n 4 W (by omega) (by omega) (by omega)
 have d:=qQ fun W=>show Calls prog 297 #[.string ⟨#[0]⟩,.int .i64 52] W _ from Tryz.rep_any ⟨#[0]⟩ 52 W (by omega) (by decide)
 rw[Pb]at d;have a:(bs (be 1 p)).size=1:=by rw[jh,jO]
 have b:(bs (be 4 n)).size=4:=by rw[jh,jO]
 have j:(bs (List.replicate 52 0)).size=52:=by rw[jh,List.length_replicate]
 have C:∀W:World,(Op.stringOp .add ⟨#[98,108,109]⟩ (bs (be 1 p))).run prog W = .ok (.string ((⟨#[98,108,109]⟩:Tw)++bs (be 1 p))) W:=fun W=>run_string_add_sum (P:=prog) (w:=W) _ _ (by rw[a];decide)
 have c:((⟨#[98,108,109]⟩:Tw)++bs (be 1 p)).size=4:=by rw[qT,a];rfl
 have D:∀W:World,(Op.stringOp .add ((⟨#[98,108,109]⟩:Tw)++bs (be 1 p)) (bs (be 4 n))).run prog W = .ok (.string ((⟨#[98,108,109]⟩:Tw)++bs (be 1 p)++bs (be 4 n))) W:=fun W=>run_string_add_sum (P:=prog) (w:=W) _ _ (by rw[c,b];decide)
 have k:((⟨#[98,108,109]⟩:Tw)++bs (be 1 p)++bs (be 4 n)).size=8:=by rw[qT,c,b]
 have g:(⟨#[98,108,109]⟩:Tw)++bs (be 1 p)++bs (be 4 n)++bs (List.replicate 52 0)=bs (hdL n p):=by
  have u:(⟨#[98,108,109]⟩:Tw)=bs [98,108,109]:=rfl;have v:be 1 p=[UInt8.ofNat p]:=by simp[be]
  rw[u,v,gu,gu,gu];unfold hdL;simp
 have F:∀W:World,(Op.stringOp .add ((⟨#[98,108,109]⟩:Tw)++bs (be 1 p)++bs (be 4 n)) (bs (List.replicate 52 0))).run prog W = .ok (.string (bs (hdL n p))) W:=fun W=>by rw[<-g];exact run_string_add_sum (P:=prog) (w:=W) _ _ (by rw[k,j];decide)
 have f:=qQ fun W=>na (bs (hdL n p)) W (by rw[jh,U7];decide)
 have i:hdP n p=vg (bs (hdL n p)):=rfl;rw[<-i]at f;clear g i;generalize hdP n p=R at*;generalize bs (hdL n p)=B at*;generalize bs (List.replicate 52 0)=Z at*;generalize (⟨#[98,108,109]⟩:Tw)++bs (be 1 p)++bs (be 4 n)=o at*;generalize (⟨#[98,108,109]⟩:Tw)++bs (be 1 p)=A at*;generalize bs (be 1 p)=z at*;generalize bs (be 4 n)=y at*;have I:IntKind.u64.wrap ((p:Nat):Int)=(p:Nat):=IntWalk.u64_in _ ⟨by omega,by omega⟩;have J:IntKind.u64.wrap ((n:Nat):Int)=(n:Nat):=IntWalk.u64_in _ ⟨by omega,by omega⟩;have K:((o.size:Nat):Int)=8:=by omega
 have L:(p:Int)%18446744073709551616=(p:Int):=by omega
 have M:(n:Int)%18446744073709551616=(n:Int):=by omega
 clear a b j c k;go_enter func265,ntmps265;go_wp2_with fail;refine(l.out _).mono ?_;rintro e N⟨rfl,q⟩;go_wp2_with fail;refine(m.out _).mono ?_;rintro e O⟨rfl,r⟩;go_wp2_with fail;refine(d.out _).mono ?_;rintro e Q⟨rfl,s⟩;go_wp2_with fail;refine(f.out _).mono ?_;rintro e S⟨rfl,t⟩;go_wp2;go_ret;exact⟨rfl,bj (bj (bj q r) s) t⟩
end
end Go.Proofs.YthejglbnkmimjaaGreat

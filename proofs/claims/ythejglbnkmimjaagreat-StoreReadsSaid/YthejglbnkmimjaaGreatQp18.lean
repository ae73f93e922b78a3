import Derived.Test.YthejglbnkmimjaaGreatQp10
set_option linter.unusedVariables false
set_option maxRecDepth 100000
set_option maxHeartbeats 9000000
namespace Go.Proofs.YthejglbnkmimjaaGreat
open Proofs.Tryz
section
open Go.RowKit
def dB(y:jj):Bool:=decide (300<y.t.size)||decide (300<y.d.size)
def dC(x:yg):Bool:=decide (300<x.s.size)||decide (20<x.l.length)||x.l.any dB
def cB(l:List yg)(a:Nat):Bool:=l.any dC||decide (a<l.length)
theorem Bi{α:Type}(p:α->Bool)(l:List α)(k:Nat)(x:α)(h:l[k]? = some x)(a:(l.take k).any p=false)(b:p x=false):(l.take (k+1)).any p=false:=by
 rw[qw,h,List.any_append,a];simp[b]
theorem rj{α:Type}(p:α->Bool)(l:List α)(k:Nat)(x:α)(h:l[k]? = some x)(a:p x=true):l.any p=true:=List.any_eq_true.2 ⟨x,qM h,a⟩
theorem vC.zt{w:World}{v:Value}{l:List jj}(h:vC w v l){i:Nat}{x:jj}(a:l[i]? = some x):∃b off c,v=.slice (some ⟨b,off,none⟩) l.length c/\b<w.1.size/\w.cell? ⟨b,off+i*3,none⟩=some (.string x.t)/\w.cell? ⟨b,off+i*3+1,none⟩=some (.string x.d)/\w.cell? ⟨b,off+i*3+2,none⟩=some (.float .f64 x.b):=by
 rcases h with⟨rfl,-⟩|⟨m,b,off,f,k,n,j,g⟩
 ·simp at a
 ·obtain⟨c0,c1,c2⟩:=g i x a;exact⟨b,off,f,k,j,c0,c1,c2⟩
theorem qZG(v:Value)(l:List yg)(a:Nat)(w:World)(hv:mV w v l)(Z:∀x∈l,bd w x)(hm:a<=1000):
  Calls prog 6 #[v,a] w (X0 (.bool (cB l a)) w):=by
 obtain⟨A,off,ah,rfl,ml,T⟩:=hv.form;unfold maxLen at ml;have HC:=qQ T;have HO:=qQ Z;clear hv T Z;obtain⟨n,C⟩:∃n,n=l.length:=⟨_,rfl⟩
 rw[<-C]at ml ⊢;have u:=qQ C;clear C;go_enter func6,ntmps6;go_wp2;go_loopw [5] (fun i wr=>∃k:Nat,k<=n/\i=.int .i64 (k:Nat)/\(l.take k).any dC=false/\wr=w) (fun i _=>n-(intOf i).toNat)
 case atStart=>exact⟨0,qI _,rfl,rfl,rfl⟩
 case round =>
  obtain⟨k,hk,rfl,R,rfl⟩:=hrel;have K:=qQ R;clear R;by_cases W:k<n
  ·have l1:(k:Int)<(n:Int):=(by omega);obtain⟨x,p⟩:∃x,l[k]? = some x:=⟨_,qD (by rw[<-u.out];exact W)⟩
   obtain⟨b,rfl,ai,d0,d1,d2,d3,O⟩:=HC.out k x p;have ok:=HO.out x (qM p);obtain⟨U,X,A2,c2,D⟩:=ok.v;rw[D]at O;have m1:=ok.s;unfold maxLen at m1 X;have o:=qQ p;have HE:=qQ U;have ae:=qQ D;have ad:=qQ ok.l;have f:dC x=(decide (300<x.s.size)||decide (20<x.l.length)||x.l.any dB):=rfl;clear p ok U D;have af:(300<x.s.size)∨(x.s.size<=300/\20<x.l.length)∨(x.s.size<=300/\x.l.length<=20):=(by omega);rcases af with H|⟨H,I⟩|⟨H,I⟩
   ·have c:=qQ (show cB l a=true by unfold cB;rw[rj dC l k x o.out (by rw[f,qB H];rfl)];rfl);have r1:decide ((300:Int)<(x.s.size:Int))=true:=qB (by omega);clear f;go_wp2;go_ret;exact⟨pK c.out.symm,rfl⟩
   ·have c:=qQ (show cB l a=true by unfold cB;rw[rj dC l k x o.out (by rw[f,qB I];simp)];rfl);have r1:decide ((300:Int)<(x.s.size:Int))=false:=qA (by omega);have r2:decide ((20:Int)<(x.l.length:Int))=true:=qB (by omega);clear f;go_wp2;go_ret;exact⟨pK c.out.symm,rfl⟩
   ·have r1:decide ((300:Int)<(x.s.size:Int))=false:=qA (by omega);have r2:decide ((20:Int)<(x.l.length:Int))=false:=qA (by omega);obtain⟨m,B⟩:∃m,m=x.l.length:=⟨_,rfl⟩
    rw[<-B]at O r2 X I;have M:=qQ B;have L:=qQ (show x.l.any dB=true->cB l a=true from fun q=>by unfold cB;rw[rj dC l k x o.out (by rw[f,q];simp)];rfl);have aa:=qQ (show x.l.any dB=false->(l.take (k+1)).any dC=false from fun q=>Bi dC l k x o.out K.out (by rw[f,q,qA (by omega),qA (by omega)];rfl));clear f B;go_wp2;go_loopw [6] (fun i wi=>∃j:Nat,j<=m/\i=.int .i64 (j:Nat)/\(x.l.take j).any dB=false/\wi=wr) (fun i _=>m-(intOf i).toNat)
    case atStart=>exact⟨0,qI _,rfl,rfl,rfl⟩
    case round =>
     obtain⟨j,hj,rfl,S,rfl⟩:=hrel;have N:=qQ S;clear S;by_cases V:j<m
     ·have l2:(j:Int)<(m:Int):=(by omega);obtain⟨y,r⟩:∃y,x.l[j]? = some y:=⟨_,qD (by rw[<-M.out];exact V)⟩
      obtain⟨b3,o3,c3,P,-,y0,y1,-⟩:=HE.out.zt r;have Q:=ae.out.symm.trans P;obtain⟨rfl,-,-⟩:=Value.slice.inj Q;have F:=ad.out y (qM r);have n1:=F.t;have n2:=F.d;unfold maxLen at n1 n2;have z:=qQ r;clear r P Q F;have ag:(300<y.t.size)∨(y.t.size<=300/\300<y.d.size)∨(y.t.size<=300/\y.d.size<=300):=(by omega);rcases ag with G|⟨G,p2⟩|⟨G,p2⟩
      ·have c:=qQ (L.out (rj dB x.l j y z.out (by unfold dB;rw[qB G];rfl)));have u1:decide ((300:Int)<(y.t.size:Int))=true:=qB (by omega);go_wp2;go_ret;exact⟨pK c.out.symm,rfl⟩
      ·have c:=qQ (L.out (rj dB x.l j y z.out (by unfold dB;rw[qB p2];simp)));have u1:decide ((300:Int)<(y.t.size:Int))=false:=qA (by omega);have u2:decide ((300:Int)<(y.d.size:Int))=true:=qB (by omega);go_wp2;go_ret;exact⟨pK c.out.symm,rfl⟩
      ·have ac:=qQ (Bi dB x.l j y z.out N.out (by unfold dB;rw[qA (by omega),qA (by omega)];rfl));have u1:decide ((300:Int)<(y.t.size:Int))=false:=qA (by omega);have u2:decide ((300:Int)<(y.d.size:Int))=false:=qA (by omega);go_wp2;go_roundw
       case rel=>exact⟨j+1,by omega,by go_num,ac.out,trivial⟩
       case measure=>simp[intOf];omega
     ·obtain rfl:j=m:=(by omega);have g:=N.out;rw[qp (by rw[<-M.out];exact qK _)]at g;have ab:=qQ (aa.out g);have l2:¬(j:Int)<(j:Int):=(by omega);clear g V;go_wp2;go_roundw
      case rel=>exact⟨k+1,by omega,by go_num,ab.out,trivial⟩
      case measure=>simp[intOf];omega
  ·obtain rfl:k=n:=(by omega);have g:=K.out;rw[qp (by rw[<-u.out];exact qK _)]at g;have c:=qQ (show cB l a=decide (a<k) by unfold cB;rw[g,u.out];rfl);clear g W;by_cases Y:a<k
   ·have t1:decide ((a:Int)<(k:Int))=true:=qB (by omega);have J:decide (a<k)=true:=qB Y;go_wp2;go_ret;exact⟨by rw[c.out,J];rfl,rfl⟩
   ·have t1:decide ((a:Int)<(k:Int))=false:=qA (by omega);have J:decide (a<k)=false:=qA Y;go_wp2;go_ret;exact⟨by rw[c.out,J];rfl,rfl⟩
end
end Go.Proofs.YthejglbnkmimjaaGreat

import Derived.Test.YthejglbnkmimjaaGreatQp05
import Derived.Deep.RegionHeldLaw
set_option linter.unusedVariables false
set_option maxRecDepth 100000
set_option maxHeartbeats 9000000
namespace Go.Proofs.YthejglbnkmimjaaGreat
open Proofs.Tryz
section
open Go.RowKit
theorem UC: (prog.info? 239).map (·.size)=some 8:=by kernel_rfl
theorem PV(d:Nat)(p:Addr)(w:World):(Op.equalIn (d+1) 160 (.pointer (some p)) (.pointer (some p))).run prog w=.ok true w:=by
 cases a:prog.info? 239 with
 | none=>have:=UC;rw[a]at this;cases this
 | some i =>
   have b:i.size=8:=(by have:=UC;rw[a]at this;simpa using this);simp[Op.equalIn,run_underlying Tryz.underlying160,sizeOf,typeInfo,a,sameAddr]
theorem PY(p:Addr)(w:World):(binOp .neq 160 (.pointer (some p)) (.pointer (some p))).run prog w=.ok (.bool false) w:=by
 have a:(Op.equal 160 (.pointer (some p)) (.pointer (some p))).run prog w=.ok true w:=PV 9999 p w;simp only[binOp];simp[a]
theorem Z8{w:World}{gt:Nat}(h:w.cell? ⟨gt,0,none⟩=some (ptr gt)):Calls prog 185 #[ptr gt] w (X0 (.bool false) w):=by
 have a:=PY ⟨gt,0,none⟩;go_enter func185,ntmps185;go_wp2;go_ret;exact⟨rfl,rfl⟩
theorem PU(w:World):Calls prog 185 #[.pointer none] w (X0 (.bool true) w):=by
 go_enter func185,ntmps185;go_wp2;go_ret;exact⟨rfl,rfl⟩
section
variable {w:World}{gt gd:Nat}{n:Int}{l:List jC}{t:Tw}{G:List Nat}
theorem UD(h:yE w gt gd n l t G):Calls prog 121 #[ptr gt] w (X0 (.int .i64 n) w):=by
 obtain⟨c0,c1,c2,a⟩:=h.cells;have b:=qQ (Z8 c0);clear h c0 c1 a;go_enter func121,ntmps121;go_wp2_with fail;refine X5 b.out ?_;go_wp2;go_ret;exact⟨rfl,rfl⟩
theorem UE(h:yE w gt gd n l t G)(x:Nat)(f:x<18446744073709551616):Calls prog 167 #[ptr gt,.int .u64 (x:Nat)] w (X3 (.bool (dq l t x)) w):=by
 obtain⟨A,c,p,q,m,a,i,d,-⟩:=h;have c0:w.cell? ⟨gt,0,none⟩=some (ptr gt):=a.cell 0;have s:w.cell? ⟨gt,3,none⟩=some (.int .i64 (l.length:Nat)):=a.cell 3;have u:w.cell? ⟨gt,5,none⟩=some (.int .i64 p):=a.cell 5;have v:w.cell? ⟨gt,6,none⟩=some (.int .i64 q):=a.cell 6;have y:w.cell? ⟨gt,7,none⟩=some (.map m):=a.cell 7;have o:=qQ (Z8 c0);have j:=qQ (Vm _ x t w f d);unfold dq;by_cases b:0<l.length
 ·have C:decide ((0:Int)<(l.length:Int))=true:=qB (by omega);rw[qB b,Bool.true_and];generalize gV t x=r at*;generalize l.length=k at*;clear a i d c0 f;go_enter func167,ntmps167;go_wp2_with fail;refine X5 o.out ?_;go_wp2_with fail;refine KG j.out fun w' B=>?_;go_wp2;go_ret;exact⟨rfl,B⟩
 ·have z:l.length=0:=by omega
  rw[qA b,Bool.false_and];rw[z]at s;clear a i d c0 b f j u v y;go_enter func167,ntmps167;go_wp2_with fail;refine X5 o.out ?_;go_wp2;go_ret;exact⟨rfl,qU _ _⟩
end
theorem PG(k:Nat)(w:World)(c:k<=1000):Calls prog 220 #[err k] w (X0 (err (tI k)) w):=by
 unfold tI;by_cases a:k=0
 ·subst a;rw[qV rfl];go_enter func220,ntmps220;go_wp2;go_ret;exact⟨rfl,rfl⟩
 ·rw[qZ a];by_cases b:k=61
  ·subst b;rw[qV rfl];go_enter func220,ntmps220;go_wp2;go_ret;exact⟨rfl,rfl⟩
  ·rw[qZ b];have d:((k:Int)==0)=false:=(by simp;omega);have f:((k:Int)==61)=false:=(by simp;omega);go_enter func220,ntmps220;go_wp2;go_ret;exact⟨rfl,rfl⟩
section
variable {At:jR}(api:jS At){w0 w:World}{gd:Nat}{D:jD}{E:List Nat}
include api
theorem tT(h:DS At w0 gd D E w)(ok:WfP D):Calls prog 175 #[ptr gd] w (X0 (err (if D.down=true then 61 else 0)) w):=by
 have c:=h.size api ok ⟨#[110,101,119]⟩ (by decide);rcases so D ⟨#[110,101,119]⟩ with⟨f,i⟩|⟨f,i⟩
 ·rw[qV f];rw[i]at c;have d:=qQ c;clear c;go_enter func175,ntmps175;go_wp2_with fail;refine X5 d.out ?_;go_wp2;go_ret;exact⟨rfl,rfl⟩
 ·rw[qZ (by rw[f];decide)];have j:(((jk D ⟨#[110,101,119]⟩).2:Int)==1)=false:=by simp;omega
  have k:(((jk D ⟨#[110,101,119]⟩).2:Int)==61)=false:=by simp;omega
  have d:=qQ c;generalize (jk D ⟨#[110,101,119]⟩).1=a at*;generalize (jk D ⟨#[110,101,119]⟩).2=b at*;clear c i;go_enter func175,ntmps175;go_wp2_with fail;refine X5 d.out ?_;go_wp2;go_ret;exact⟨rfl,rfl⟩
theorem UF(h:DS At w0 gd D E w)(ok:WfP D)(n s:Tw)(i:n.size<=maxLen)(u:s.size<=1099511627776):Calls prog 178 #[ptr gd,n,s] w (y9 At w0 gd (err (ji D n s).1) (ji D n s).2 E w):=by
 have d:=h.xD api (fun F hF=>api.create n hF ok.ok i);have q:=lT ok n;have z:=l5 q n s;have j:=fun W (B:DS At w0 gd (jx D n).2 E W)=>B.xD api (fun F hF=>api.append n s hF q.ok u i)
 have v:=fun W (B:DS At w0 gd (jc (jx D n).2 n s).2 E W)=>B.xD api (fun F hF=>api.sync n hF z.ok i)
 unfold ji;by_cases f:(jx D n).1=0
 ·rw[qZ (by simp[f])];rw[f]at d;by_cases p:(jc (jx D n).2 n s).1=0
  ·rw[qZ (by simp[p])];rw[p]at j;generalize kZ (jc (jx D n).2 n s).2 n=Q at*;generalize (jc (jx D n).2 n s).2=P at*;generalize (jx D n).2=K at*;have m:=qQ d;have A:=qQ j;have L:=qQ v;clear d j v h ok q z f p i u;go_enter func178,ntmps178;go_wp2_with fail;refine m.out.mono ?_;rintro e J⟨rfl,b,c⟩;have a:=qQ (qG b c);clear b c;go_wp2_with fail;refine(A.out _ a.out.1).mono ?_;rintro e O⟨rfl,o,r⟩;have k:=qQ (qG o r);clear o r;go_wp2_with fail;refine(L.out _ k.out.1).mono ?_;rintro e R⟨rfl,H,I⟩;have C:=qQ (qG H I);clear H I;go_wp2;go_ret;exact⟨rfl,C.out.1,(a.out.2.trans k.out.2).trans C.out.2⟩
  ·rw[qV p];have t:(((jc (jx D n).2 n s).1:Int) != 0)=true:=(by simp;omega);generalize jc (jx D n).2 n s=N at*;generalize (jx D n).2=K at*;generalize N.1=y at*;have m:=qQ d;have A:=qQ j;clear d j v h ok q z f p i u;go_enter func178,ntmps178;go_wp2_with fail;refine m.out.mono ?_;rintro e J⟨rfl,b,c⟩;have a:=qQ (qG b c);clear b c;go_wp2_with fail;refine(A.out _ a.out.1).mono ?_;rintro e O⟨rfl,o,r⟩;have k:=qQ (qG o r);clear o r;go_wp2;go_ret;exact⟨rfl,k.out.1,a.out.2.trans k.out.2⟩
 ·rw[qV f];have t:(((jx D n).1:Int) != 0)=true:=by simp;omega
  generalize jx D n=M at*;generalize M.1=y at*;have m:=qQ d;clear d j v h ok q z f i u;go_enter func178,ntmps178;go_wp2_with fail;refine m.out.mono ?_;rintro e J⟨rfl,b,c⟩;have a:=qQ (qG b c);clear b c;go_wp2;go_ret;exact⟨rfl,a.out.1,a.out.2⟩
theorem Z9(h:DS At w0 gd D E w)(ok:WfP D)(f:D.count<=1099511627776)(n:Tw)(c:n.size<=maxLen):Calls prog 231 #[ptr gd,n] w (y9 At w0 gd (.tuple #[.string (rdW D n).1,err (rdW D n).2.1]) (rdW D n).2.2 E w):=by
 have m:=VP ok n;have b:=h.size api ok n c;have i:=h.xD api (fun F hF=>api.read n 0 ((jk D n).1:Nat) hF ok.ok f (by decide) (WalkArith.wf_i64 (by omega)) c);unfold rdW;by_cases a:(jk D n).2=0
 ·rw[qV a];rw[a]at b;generalize (jk D n).1=z at*;generalize vE D n 0 (z:Nat)=r at*;have d:=qQ b;have q:=qQ i;clear b i h ok f c a m;go_enter func231,ntmps231;go_wp2_with fail;refine d.out.mono ?_;rintro e s⟨rfl,rfl⟩;go_wp2_with fail;refine q.out.mono ?_;rintro e u⟨rfl,k,o⟩;have j:=qQ (qG k o);clear k o;go_wp2;go_ret2;exact⟨rfl,j.out.1,j.out.2⟩
 ·rw[qZ a];have t:(((jk D n).2:Int) != 0)=true:=by simp;omega
  generalize (jk D n).1=z at*;generalize (jk D n).2=y at*;have d:=qQ b;have p:=qQ h;clear b i h ok f c a m;go_enter func231,ntmps231;go_wp2_with fail;refine d.out.mono ?_;rintro e s⟨rfl,rfl⟩;go_wp2;go_ret2;exact⟨rfl,p.out,jE.refl _ _⟩
end
section
variable {At:jR}(api:jS At)(nap:jw){w0 w:World}{gt gd:Nat}{D:jD}{E G:List Nat}{n:Int}{l:List jC}{t:Tw}
include api nap
theorem Zq(h:DS At w0 gd D E w)(b:yE w gt gd n l t G)(ok:WfP D)(j:(Lit.int .i64 n).wf=true):Calls prog 166 #[ptr gt] w (X3 (err (tL D n)) w):=by
 obtain⟨c0,c1,c2,m⟩:=b.cells;have u:=qQ (Z8 c0);have d:=qQ fun W=>nap.table n W j
 have q:=qQ fun W (s:Below w.1.size w W)=>(h.below api s).size api ok (ptT n) (oB n)
 have r:=qQ fun W=>PG (jk D (ptT n)).2 W (by rcases so D (ptT n) with⟨-,e⟩|⟨-,e|e⟩<;>rw[e]<;>decide)
 have c:=qQ b;unfold tL;rw[show nmS 116 n=ptT n from rfl]at d;generalize tI (jk D (ptT n)).2=y at*;generalize jk D (ptT n)=z at*;generalize ptT n=v at*;clear h b ok j c0 m;go_enter func166,ntmps166;go_wp2_with fail;refine X5 u.out ?_;go_wp2_with fail
 go_region_held3 (fun w'=>w'.cell? ⟨gt,1,none⟩=some (ptr gd)/\w'.cell? ⟨gt,2,none⟩=some (.int .i64 n)) (first|assumption|exact⟨by assumption,by assumption⟩|exact⟨c1,c2⟩) (first
  | (go_at_call 123;refine(d.out _).mono ?_;rintro e i⟨rfl,f⟩;have a:=bj (show Below w.1.size w _ from by first|exact(qU _ _).drew|exact qU _ _) f;have o:i.cell? ⟨gt,1,none⟩=some (ptr gd):=(c.out.below a).cells.2.1;have p:i.cell? ⟨gt,2,none⟩=some (.int .i64 n):=(c.out.below a).cells.2.2.1)
  | (go_at_call 129;refine(q.out _ a).mono ?_;rintro e A⟨rfl,rfl⟩)
  | fail)
 all_goals
  have k:=qQ a;clear a f o p;go_wp2_with fail;refine(r.out _).mono ?_;rintro e B⟨rfl,rfl⟩;go_wp2;go_ret;exact⟨rfl,k.out⟩
omit api nap in
theorem Zx(I:yE w gt gd n l t G)(H:l.length<=1000000)(x:Nat)(v:Int){lo hi:Nat}(r:tS l ⟨x,v,0⟩ lo hi):Calls prog 168 #[ptr gt,.int .u64 (x:Nat),v] w (X3 (.tuple #[lo,hi]) w):=by
 obtain⟨A,c,p,q,m,a,o,z,-⟩:=I;have u:w.cell? ⟨gt,3,none⟩=some (.int .i64 (l.length:Nat)):=a.cell 3;have y:w.cell? ⟨gt,4,none⟩=some (.slice A (kt l).length c):=a.cell 4;have B:=qQ fun W (C:Below w.1.size w W)=>r.run (o.below C (qK _)) H
 have i:=qQ fun(f:World) (b:Below w.1.size w f)=>(show f.cell? ⟨gt,3,none⟩=some (.int .i64 (l.length:Nat))/\f.cell? ⟨gt,4,none⟩=some (.slice A (kt l).length c) from⟨(jF.below a b).cell 3,(jF.below a b).cell 4⟩)
 generalize (kt l).length=k at*;generalize l.length=j at*;clear a o z r;go_enter func168,ntmps168;go_wp2_with fail
 go_region_held3 (fun w'=>w'.cell? ⟨gt,3,none⟩=some (.int .i64 (j:Nat))/\w'.cell? ⟨gt,4,none⟩=some (.slice A k c)) (first|assumption|exact⟨by assumption,by assumption⟩|exact⟨u,y⟩) (first
  | (go_at_call 222;refine(B.out _ (by first|exact(qU _ _).drew|exact qU _ _)).mono ?_;rintro e f⟨rfl,b⟩;have d:=bj (show Below w.1.size w _ from by first|exact(qU _ _).drew|exact qU _ _) b;have J:=(i.out _ d).1;have K:=(i.out _ d).2)
  | fail)
 all_goals
  have s:=qQ d;clear d b;go_wp2;go_ret2;exact⟨rfl,s.out⟩
end
end
section
open Go.RowKit Go.Shelf
def Two(W:World)(b p q:Nat)(x y:jC):Prop:=W.cell? ⟨b,p,none⟩=some (.int .u64 (x.h:Nat))/\W.cell? ⟨b,p+1,none⟩=some (.int .i64 x.v)/\W.cell? ⟨b,p+2,none⟩=some (.int .i64 x.p) /\
 W.cell? ⟨b,q,none⟩=some (.int .u64 (y.h:Nat))/\W.cell? ⟨b,q+1,none⟩=some (.int .i64 y.v)/\W.cell? ⟨b,q+2,none⟩=some (.int .i64 y.p)
theorem Zz(v:Value)(l:List jC)(w:World)(Y:kC w v l)(hn:l.length<=1000000):
  Calls prog 225 #[v] w (X3 (.bool (ya l)) w):=by
 obtain⟨A,off,af,rfl,-,X⟩:=Y.form;have K:=qQ X;have ac:=qQ (Xd (l:=l));have ab:=qQ (fun(i:Nat) (x y:jC) h1 h2 h3=>M6 (l:=l) (i:=i) (x:=x) (y:=y) h1 h2 h3);obtain⟨n,H⟩:∃n,n=l.length:=⟨_,rfl⟩
 have B:=qQ H;rw[<-H]at hn ⊢;clear Y X H;generalize ya l=r at*;go_enter func225,ntmps225;go_wp2;go_loopw [6] (fun i wr=>∃k:Nat,k<=n/\i=.int .i64 k/\(∀(i:Nat) (x y:jC),i+1<k->l[i]? = some x->l[i+1]? = some y->jb x y=true)/\Below w.1.size w wr) (fun i _=>n-(intOf i).toNat)
 case atStart=>exact⟨0,qI _,rfl,fun i x y h=>absurd h (by omega),qU _ _⟩
 case round =>
  obtain⟨k,hk,rfl,V,a⟩:=hrel;have J:=qQ V;clear V;by_cases ag:k<n
  ·have s1:(k:Int)<(n:Int):=(by omega);by_cases T:k=0
   ·subst T;go_wp2
    first
    | (go_roundw
       case rel=>exact⟨1,by omega,by go_num,fun i x y h=>absurd h (by omega),a⟩
       case measure=>simp[intOf];omega)
    | (go_quiet (fail)
       go_wp2;refine⟨⟨1,by omega,by go_num,fun i x y h=>absurd h (by omega),uK a _⟩,by simp[intOf];omega⟩)
   ·obtain⟨m,C⟩:∃m,k=m+1:=⟨k-1,by omega⟩
    obtain⟨x,j⟩:∃x,l[m]? = some x:=⟨_,qD (by rw[<-B.out];omega)⟩
    obtain⟨y,f⟩:∃y,l[k]? = some y:=⟨_,qD (by rw[<-B.out];omega)⟩
    obtain⟨b,rfl,d,M,N,O⟩:=K.out m x j;obtain⟨b',P,-,Q,R,S⟩:=K.out k y f;obtain rfl:b=b':=(by simpa using P);have q1:(k:Int)-1=(m:Int):=(by omega);have q2:decide ((0:Int)<(k:Int))=true:=qB (by omega);have q5:decide (0<k)=true:=qB (by omega);have q6:(0:Int)<(k:Int):=(by omega);have q7:0<k:=(by omega);have q3:IntKind.i64.wrap ((m:Nat):Int)=(m:Nat):=qy _ ⟨by omega,by omega⟩;have q4:(m:Int)<(n:Int):=(by omega);have u:=qQ (show l[m]? = some x/\l[m+1]? = some y from⟨j,by rw[<-C];exact f⟩)
    have s:Hid (∀W,Below wr.1.size wr W->Below wr.1.size wr W/\Two W b (off+m*3) (off+k*3) x y):=qQ fun W q =>
     ⟨q,(q.cell (p:=⟨b,off+m*3,none⟩) (qS d a.size)).trans ((a.cell (p:=⟨b,off+m*3,none⟩) d).trans M),(q.cell (p:=⟨b,off+m*3+1,none⟩) (qS d a.size)).trans ((a.cell (p:=⟨b,off+m*3+1,none⟩) d).trans N),(q.cell (p:=⟨b,off+m*3+2,none⟩) (qS d a.size)).trans ((a.cell (p:=⟨b,off+m*3+2,none⟩) d).trans O),
      (q.cell (p:=⟨b,off+k*3,none⟩) (qS d a.size)).trans ((a.cell (p:=⟨b,off+k*3,none⟩) d).trans Q),(q.cell (p:=⟨b,off+k*3+1,none⟩) (qS d a.size)).trans ((a.cell (p:=⟨b,off+k*3+1,none⟩) d).trans R),(q.cell (p:=⟨b,off+k*3+2,none⟩) (qS d a.size)).trans ((a.cell (p:=⟨b,off+k*3+2,none⟩) d).trans S)⟩
    have z:=fun W=>oC x y W
    have I:=s.out wr (qU _ _);clear j f M N O Q R S P d T;have Z:=qQ C;clear C;have HK:=qQ hk;cases o:jb x y
    all_goals
     rw[o]at z;have aa:=qQ z;have L:=qQ o;clear z o;obtain⟨xh,xv,xp⟩:=x;obtain⟨yh,yv,yp⟩:=y;unfold Two at s I;simp only at s I;obtain⟨-,c0,c1,c2,c3,c4,c5⟩:=I;go_wp2_with fail
     go_region_held3 (fun W=>Below wr.1.size wr W/\W.cell? ⟨b,off+m*3,none⟩=some (.int .u64 (xh:Nat))/\W.cell? ⟨b,off+m*3+1,none⟩=some (.int .i64 xv)/\W.cell? ⟨b,off+m*3+2,none⟩=some (.int .i64 xp) /\
      W.cell? ⟨b,off+k*3,none⟩=some (.int .u64 (yh:Nat))/\W.cell? ⟨b,off+k*3+1,none⟩=some (.int .i64 yv)/\W.cell? ⟨b,off+k*3+2,none⟩=some (.int .i64 yp))
      (first|(with_reducible assumption)|((with_reducible refine s.out _ ?_);(first|(with_reducible assumption)|(with_reducible exact qU _ _)|(with_reducible exact(qU _ _).drew)|exact(bj (And.left (by with_reducible assumption)) ‹Below _ _ _›));done)|fail)
      (first
      | (go_at_call 172;((with_reducible refine KG (aa.out _) fun w3 ad=>?_);have U:Below wr.1.size wr w3:=bj (And.left (by with_reducible assumption)) ad))
      | fail)
     all_goals
      go_wp2
      first
      | (go_roundw
         case rel =>
          refine⟨k+1,by omega,by go_num,fun i x y hi j f=>?_,bj a U⟩;rcases qh (i+1) k with c|c
          ·exact J.out i x y c j f
          ·obtain rfl:i=m:=(by have:=Z.out;omega);rw[u.out.1]at j;rw[u.out.2]at f;rw[<-qb j,<-qb f];exact L.out
         case measure=>simp[intOf];omega)
      | (go_ret
         exact⟨by rw[ab.out m _ _ u.out.1 u.out.2 L.out];rfl,bj a U⟩)
  ·obtain rfl:k=n:=(by omega);have s1:¬(k:Int)<(k:Int):=(by omega);have ae:=ac.out (fun i x y j f=>J.out i x y (by have:=(qO.1 f).1;rw[<-B.out]at this;omega) j f);subst ae;go_wp2;go_ret;exact⟨rfl,a⟩
theorem Zj{w w2:World}{g i j k:Nat}(h:Below w.1.size w w2)(d:w.1.size<=g)(a b c:Value):
  Below w.1.size w (((w2.setCell ⟨g,i,none⟩ a).setCell ⟨g,j,none⟩ b).setCell ⟨g,k,none⟩ c):=((h.setCell d _).setCell d _).setCell d _
def uz(s:Tw)(n k:Nat):List jC:=(List.range n).map fun i=>if i<k then enG (yB s i) else⟨0,0,0⟩
theorem rJ(s:Tw)(n k:Nat):(uz s n k).length=n:=by unfold uz;rw[qz,List.length_range]
theorem UH(s:Tw)(n:Nat):uz s n n=uH s n:=by
 unfold uz uH;apply List.map_congr_left;intro i a;rw[qV (List.mem_range.1 a)]
theorem Zk(s:Tw)(n k i:Nat):(uz s n k)[i]? = if i<n then some (if i<k then enG (yB s i) else⟨0,0,0⟩) else none:=by
 unfold uz;rw[qu];by_cases h:i<n
 ·rw[List.getElem?_range h,qV h];rfl
 ·rw[xX (by rw[List.length_range];omega),qZ h];rfl
theorem UI(s:Tw){n k:Nat}(b:k<n):(uz s n k).set k (enG (yB s k))=uz s n (k+1):=by
 apply xV;intro i;rw[List.getElem?_set,rJ,Zk,Zk];by_cases h:k=i
 ·subst h;rw[qV rfl,qV b,qV b,qV (Nat.lt_succ_self _)]
 ·rw[qZ h];by_cases a:i<k
  ·rw[qV a,qV (show i<k+1 by omega)]
  ·rw[qZ a,qZ (show ¬i<k+1 by omega)]
theorem PW(s:Tw):∀n,yM (uz s n 0)=(madeCells #[Value.int .u64 0,.int .i64 0,.int .i64 0] (n*3)).toList:=by
 intro n;apply xV;intro j;by_cases d:j<n*3
 ·have c:j/3<n:=by omega
  have a:=mo (uz s n 0) (j/3) ⟨0,0,0⟩ (by rw[Zk,qV c,qZ (Nat.not_lt_zero _)]) (j%3) (by omega);rw[show j/3*3+j%3=j by omega]at a;rw[a];unfold madeCells dw;rw[Array.toList_map,qu,Array.toList_range,List.getElem?_range d];have b:j%3<3:=by omega
  show _=some ((#[Value.int .u64 0,.int .i64 0,.int .i64 0]:Array Value)[j%3]!);generalize j%3=r at*
  match r,b with
  | 0,_=>rfl
  | 1,_=>rfl
  | 2,_=>rfl
 ·rw[xX (by rw[oE,rJ];omega),xX (by rw[Array.length_toList,size_madeCells];omega)]
theorem UL(s:Tw)(n:Nat)(i:n<=1000000):∃Z:Array Value,(∀w:World,(Instr.makeSlice 112 (.int .i64 (n:Nat)) (.int .i64 (n:Nat))).run prog w=.ok (.slice (some ⟨w.1.size,0,none⟩) n n) (w.alloc (.cells Z 117))) /\
  ∀w:World,jy (w.alloc (.cells Z 117)) w.1.size (.slice (some ⟨w.1.size,0,none⟩) n n) (uz s n 0):=by
 obtain⟨f,b,c,a,d⟩:=info_parts ZP;refine⟨madeCells #[Value.int .u64 0,.int .i64 0,.int .i64 0] (n*3),fun w=>?_,fun w=>?_⟩
 ·have h:=run_makeSlice (P:=prog) w 112 117 f _ Tryz.underlying112 b c .i64 .i64 (n:Int) (n:Int) (by omega) (Int.le_refl _) (by rw[a];omega) (by rw[d];omega) (by omega);rw[a,qm]at h;exact h
 ·have h:=World.ownsRow_lit (base:=w.1.size) (e:=117) (size:=3) w (madeCells #[Value.int .u64 0,.int .i64 0,.int .i64 0] (n*3)) n (qK _) (by unfold maxLen;omega) (size_madeCells _ _);unfold jy;rw[rJ,PW];exact h
def fw(w:World)(s:Tw)(e:Ending)(w':World):Prop:=∃A c,e=.returned (.tuple #[.slice A (tgL s).length c,.int .i64 (tgE s)])/\jy w' w.1.size (.slice A (tgL s).length c) (tgL s)/\Below w.1.size w w'
theorem PA{w w':World}{s:Tw}{e:Ending}(h:yw s=false)(d:e=.returned (.tuple #[.slice none 0 0,.int .i64 90]))(c:Below w.1.size w w'):fw w s e w':=by
 obtain⟨a,b⟩:=ZH h;unfold fw;rw[a,b];exact⟨none,0,d,jy.nil _ _,c⟩
theorem UM(s:Tw)(w:World)(hs:s.size<=1100000):
  Calls prog 232 #[s] w (fw w s):=by
 have N:s.size<=maxLen:=by unfold maxLen;omega
 have o:=fun W=>OD s W N
 have u:yw s=false->Hid (∀w':World,Below w.1.size w w'->fw w s (.returned (.tuple #[.slice none 0 0,.int .i64 90])) w'):=fun h=>qQ fun w' r=>PA h rfl r
 cases j:ld s with
 | false =>
   rw[j]at o;have H:=qQ o
   have p:=u (by
    cases e:yw s with
    | false=>rfl
    | true =>
      have h:=lu.1 e;rw[show ld s=true from qB ⟨h.1,h.2.1⟩]at j;cases j)
   generalize me s=m at*;clear o u j N;go_enter func232,ntmps232;go_wp2_with fail;refine(H.out _).mono ?_;rintro e d⟨rfl,rfl⟩;go_wp2;go_ret2;exact p.out _ (qU _ _)
 | true =>
 rw[j]at o;have ae:me s=(tbN s:Nat):=by unfold me;rw[j];rfl
 rw[ae]at o;have H:=qQ o;have U:=of_decide_eq_true j;have K:=fun W=>Y9 (tbN s:Nat) W
 by_cases v:(s.size:Int)=fW (tbN s:Nat)
 case neg =>
  have p:=u (by
   cases e:yw s with
   | false=>rfl
   | true =>
     have h:=lu.1 e;exact absurd (by rw[(oA h.2.2.1).1,<-h.2.2.2.1]) v)
  have R:=qQ K;have t1:((s.size:Int) != fW (tbN s:Nat))=true:=by rw[bne_iff_ne];exact v
  clear o u j ae v U K N;generalize fW (tbN s:Nat)=z at*;generalize tbN s=n at*;go_enter func232,ntmps232;go_wp2_with fail;refine(H.out _).mono ?_;rintro e d⟨rfl,rfl⟩;go_wp2_with fail;refine(R.out _).mono ?_;rintro e d⟨rfl,rfl⟩;go_wp2;go_ret2;exact p.out _ (qU _ _)
 have V:tbN s<=89478484/\s.size=12+24*tbN s:=by
  by_cases h:tbN s<=89478484
  ·rw[(oA h).1]at v;exact⟨h,by omega⟩
  ·rw[(tD (qY (by omega))).1]at v;omega
 have aj:fW (tbN s:Nat)=(s.size:Int):=v.symm;rw[aj]at K;have R:=qQ K;have I:=fun W=>XO s W N
 cases B:yn s with
 | false =>
   rw[B]at I;have aa:=qQ I
   have p:=u (by
    cases e:yw s with
    | false=>rfl
    | true =>
      have h:=lu.1 e;rw[h.2.2.2.2.1]at B;cases B)
   generalize opA s=oa at*;clear o u j ae v U K aj I B V N;generalize tbN s=n at*;go_enter func232,ntmps232;go_wp2_with fail;refine(H.out _).mono ?_;rintro e d⟨rfl,rfl⟩;go_wp2_with fail;refine(R.out _).mono ?_;rintro e d⟨rfl,rfl⟩;go_wp2_with fail;refine(aa.out _).mono ?_;rintro e d⟨rfl,ac⟩;go_wp2;go_ret2;exact p.out _ ac
 | true =>
 rw[B]at I;have aa:=qQ I;obtain⟨Z,az,aq⟩:=UL s (tbN s) (by omega);have ap:=qQ aq
 have ay:Hid ((∀i,i<tbN s->vg (yB s i)=true)->ya (uH s (tbN s))=true->∀(A:Option Addr) c (w':World),jy w' w.1.size (.slice A (tbN s) c) (uH s (tbN s))->Below w.1.size w w'->fw w s (.returned (.tuple #[.slice A (tbN s) c,.int .i64 0])) w'):=qQ fun h1 h2 A c w' hr r=>by
  obtain⟨e1,e2⟩:=pn (lu.2 ⟨U.1,U.2,V.1,V.2,B,h1,h2⟩);unfold fw;rw[e1,e2,pr];exact⟨A,c,rfl,hr,r⟩
 have ao:Hid ((∃i,i<tbN s/\vg (yB s i)=false)∨ya (uH s (tbN s))=false->∀w':World,Below w.1.size w w'->fw w s (.returned (.tuple #[.slice none 0 0,.int .i64 90])) w'):=qQ fun h w' r=>(u (by
  cases e:yw s with
  | false=>rfl
  | true =>
    have h2:=lu.1 e;rcases h with⟨i,hi,T⟩|T
    ·rw[h2.2.2.2.2.2.1 i hi]at T;cases T
    ·rw[h2.2.2.2.2.2.2]at T;cases T)).out w' r
 have ax:=qQ (show ∀k,k<tbN s->(uz s (tbN s) k).set k (enG (yB s k))=uz s (tbN s) (k+1) from fun k hk=>UI s hk);have aw:=qQ (UH s (tbN s));have Y:=qQ (show ∀k,(uz s (tbN s) k).length=tbN s from fun k=>rJ s (tbN s) k);have aA:=V.2;generalize opA s=oa at*;clear o u j ae v U K aj I B V aq N;generalize tbN s=n at*;have hw:IntKind.i64.wrap (n:Int)=(n:Int):=qy _ ⟨by omega,by omega⟩;go_enter func232,ntmps232;go_wp2_with fail;refine(H.out _).mono ?_;rintro e d⟨rfl,rfl⟩;go_wp2_with fail;refine(R.out _).mono ?_;rintro e d⟨rfl,rfl⟩;go_wp2_with fail;refine(aa.out _).mono ?_;rintro e d⟨rfl,ac⟩;have hR:=ap.out d;have X:=qQ ac;have au:=(qU d.1.size d).alloc (qK _) (.cells Z 117);clear ap ac H R aa;go_wp2;go_loopw [35] (fun i wr=>∃k:Nat,k<=n/\i=.int .i64 k/\(∀i,i<k->vg (yB s i)=true)/\jy wr d.1.size (.slice (some ⟨d.1.size,0,none⟩) n n) (uz s n k)/\Below d.1.size d wr) (fun i _=>n-(intOf i).toNat)
 case atStart=>exact⟨0,qI _,rfl,fun i h=>absurd h (by omega),hR,au⟩
 case round =>
  obtain⟨k,hk,rfl,ar,P,ad⟩:=hrel;clear hR au az;have HA:=qQ ar;clear ar;by_cases M:k<n
  ·have s1:(k:Int)<(n:Int):=(by omega);obtain⟨a,ha⟩:∃a,a=8+24*k:=⟨_,rfl⟩
   obtain⟨b,r⟩:∃b,b=32+24*k:=⟨_,rfl⟩
   have ak:Hid (∀W,Calls prog 223 #[.int .i64 (k:Nat)] W (X0 (.int .i64 (a:Nat)) W)):=qQ fun W=>by
    have:=tE (k:Nat) W;rw[(oA (by omega)).2,<-ha]at this;exact this
   have al:Hid (∀W,Calls prog 223 #[.int .i64 ((k:Int)+1)] W (X0 (.int .i64 (b:Nat)) W)):=qQ fun W=>by
    have:=tE ((k+1:Nat):Int) W;rw[(oA (by omega)).2,show 8+24*(k+1)=b by omega]at this;exact this
   have S:yB s k=s.extract a b:=(by rw[ha,r];rfl);have q:=fun W=>UQ (s.extract a b) W (by unfold maxLen;rw[qk];omega)
   rw[<-S]at q;have ah:=qQ (ax.out k M);have x1:(a:Int)<=(b:Int):=(by omega);have x2:(b:Int)<=(s.size:Int):=(by omega);have x3:a<=b:=(by omega);have x4:b<=s.size:=(by omega);have ab:=qQ P;have am:=qQ ad;have af:Hid (vg (yB s k)=vg (yB s k)):=qQ rfl;rw[S]at q ah;rw[S]at af;have an:=qQ S;clear S ha r P ad;cases O:vg (s.extract a b) with
   | false =>
     rw[O]at q;have p:=qQ (ao.out (qX ⟨k,M,by rw[an.out];exact O⟩));have ag:=qQ q;clear q O af ah;generalize enG (s.extract a b)=x at*;obtain⟨xh,xv,xp⟩:=x;go_wp2_with fail;refine(ak.out _).mono ?_;rintro e C⟨rfl,rfl⟩;go_wp2_with fail;refine(al.out _).mono ?_;rintro e C⟨rfl,rfl⟩;go_wp2_with fail;refine(ag.out _).mono ?_;rintro e C⟨rfl,f⟩;have L:=ab.out.below f (qK _);obtain⟨⟨y,q0,q1,q2⟩,f0,f1,f2⟩:=L.at_ (Y.out k).symm M;have R3:=qQ (L.put (Y.out k).symm M ⟨xh,xv,xp⟩);go_wp2;go_ret2;exact p.out _ (bj X.out (Zj (bj am.out f) (qK _) _ _ _))
   | true =>
     rw[O]at q;have ag:=qQ q
     have av:=qQ (show ∀i,i<k+1->vg (yB s i)=true from fun i hi=>by
      rcases qh i k with c|c
      ·exact HA.out i c
      ·obtain rfl:i=k:=(by omega);rw[an.out];exact O)
     clear q O af;generalize enG (s.extract a b)=x at*;obtain⟨xh,xv,xp⟩:=x;go_wp2_with fail;refine(ak.out _).mono ?_;rintro e C⟨rfl,rfl⟩;go_wp2_with fail;refine(al.out _).mono ?_;rintro e C⟨rfl,rfl⟩;go_wp2_with fail;refine(ag.out _).mono ?_;rintro e C⟨rfl,f⟩;have L:=ab.out.below f (qK _);obtain⟨⟨y,q0,q1,q2⟩,f0,f1,f2⟩:=L.at_ (Y.out k).symm M;have R3:=L.put (Y.out k).symm M ⟨xh,xv,xp⟩;rw[ah.out]at R3;have R4:=qQ R3;clear R3 L;go_wp2;exact⟨⟨k+1,by omega,by go_num,av.out,R4.out,Zj (bj am.out f) (qK _) _ _ _⟩,by simp[intOf];omega⟩
  ·obtain rfl:k=n:=(by omega);have s1:¬(k:Int)<(k:Int):=(by omega);rw[aw.out]at P;have J:=Zz _ _ wr (jy.xE P) (by rw[pr];omega);have ab:=qQ P;clear P;cases Q:ya (uH s k) with
   | false =>
     rw[Q]at J;have ai:=qQ J;have p:=qQ (ao.out (qY Q));clear J Q;go_wp2_with fail;refine ai.out.mono ?_;rintro e C⟨rfl,f⟩;go_wp2;go_ret2;exact p.out _ (bj X.out (bj ad f))
   | true =>
     rw[Q]at J;have ai:=qQ J;have HY:=qQ (ay.out HA.out Q);clear J Q;go_wp2_with fail;refine ai.out.mono ?_;rintro e C⟨rfl,f⟩;go_wp2;go_ret2;exact HY.out _ _ _ (jy.down (jy.below ab.out f (qK _)) X.out.size) (bj X.out (bj ad f))
end
section
open Go.RowKit
section
variable {At:jR}(api:jS At)(nap:jw){w0 w:World}{gt gd:Nat}{D D':jD}{E G:List Nat}{n:Int}{l:List jC}{t:Tw}
include api nap
theorem PB(h:DS At w0 gd D E w)(S:yE w gt gd n l t G)(hG:∀b∈G,b∈E)(ok:WfP D)(hc:D.count<=1099511627776)(wn:(Lit.int .i64 n).wf=true)(lo hi m:Nat)(hm:hi=lo+m)(av:hi<=40000)(s:Tw)
  (T:vE D (ptT n) ((8+24*lo:Nat):Int) ((24*m:Nat):Int)=(s,0,D')) (hs:s.size=24*m) (r:okP s m=true):
  Calls prog 169 #[ptr gt,lo,hi] w (mw At w0 gd (fm s m) 0 D' E w):=by
 obtain⟨c0,c1,c2,c3⟩:=S.cells;have hN:=qQ fun W=>nap.table n W wn
 rw[show nmS 116 n=ptT n from rfl]at hN;obtain⟨a,Q⟩:∃a,a=8+24*lo:=⟨_,rfl⟩
 obtain⟨b,o⟩:∃b,b=8+24*hi:=⟨_,rfl⟩
 obtain⟨z,L⟩:∃z,z=24*m:=⟨_,rfl⟩
 have al:Hid (∀W,Calls prog 223 #[lo] W (X0 (.int .i64 (a:Nat)) W)):=qQ fun W=>by
  have:=tE (lo:Nat) W;rw[(oA (by omega)).2,<-Q]at this;exact this
 have am:Hid (∀W,Calls prog 223 #[hi] W (X0 (.int .i64 (b:Nat)) W)):=qQ fun W=>by
  have:=tE (hi:Nat) W;rw[(oA (by omega)).2,<-o]at this;exact this
 rw[<-Q,<-L]at T
 have hR:=qQ fun W (hW:Below w.1.size w W)=>(h.below api hW).xD api (v:=.tuple #[s,.int .i64 0]) (D':=D') (fun F hF=>by
  have:=api.read (ptT n) (a:Nat) (z:Nat) hF ok.ok hc (WalkArith.wf_i64 (by omega)) (WalkArith.wf_i64 (by omega)) (oB n);rw[T]at this;exact this)
 have e1:IntKind.i64.wrap ((b:Int)-(a:Int))=(z:Int):=by rw[qy _ ⟨by omega,by omega⟩];omega
 have e2:IntKind.i64.wrap ((hi:Int)-(lo:Int))=(m:Int):=by rw[qy _ ⟨by omega,by omega⟩];omega
 have e3:(hi:Int)-(lo:Int)=(m:Int):=by omega
 have e4:(b:Int)-(a:Int)=(z:Int):=by omega
 have ar:IntKind.i64.wrap (z:Int)=(z:Int):=qy _ ⟨by omega,by omega⟩;have C:=qQ S;have HK:=qQ (Yz.1 r);obtain⟨Z,au,ag⟩:=UL (fp s) m (by omega);have ae:=qQ ag;have aq:=qQ (show ∀k,k<m->(uz (fp s) m k).set k (enG (pcP s k))=uz (fp s) m (k+1) from fun k r=>by rw[<-Yj];exact UI _ r);have ao:=qQ (show uz (fp s) m m=fm s m by rw[UH,OI]);have ad:=qQ (show ∀k,(uz (fp s) m k).length=m from fun k=>rJ _ m k);have ab:=qQ (OH s m);have aA:m<=40000:=by omega
 have hw:IntKind.i64.wrap (m:Int)=(m:Int):=qy _ ⟨by omega,by omega⟩;have ac:=qQ h.lt;have aw:=qQ h.kept;generalize ptT n=nm at*;clear T Q o r h S ok hc wn c0 c3 hm av ag L;go_enter func169,ntmps169;go_wp2_with fail;refine(al.out _).mono ?_;rintro e U⟨rfl,rfl⟩;have aa:=qQ hG;go_wp2_with fail;have ak:=qG c1 c2
 go_region_held3 (fun w'=>w'.cell? ⟨gt,1,none⟩=some (ptr gd)/\w'.cell? ⟨gt,2,none⟩=some (.int .i64 n)) (first|(with_reducible assumption)|(with_reducible exact⟨by with_reducible assumption,by with_reducible assumption⟩)|exact ak) (first
  | (go_at_call 123;refine(hN.out _).mono ?_;rintro e U⟨rfl,o⟩;have j:=bj (show Below w.1.size w _ from by first|(with_reducible exact(qU _ _).drew)|(with_reducible exact qU _ _)) o;have d1:U.cell? ⟨gt,1,none⟩=some (ptr gd):=(C.out.below j).cells.2.1;have d2:U.cell? ⟨gt,2,none⟩=some (.int .i64 n):=(C.out.below j).cells.2.2.1;have q:=j.drew;have d3:=qG d1 d2)
  | (go_at_call 223;refine X5 (am.out _) ?_)
  | (go_at_call 130;(try rw[ar]);go_must (refine(hR.out _ (by first|(with_reducible exact j)|(with_reducible exact q))).mono ?_;rintro e c⟨rfl,h3,A⟩;have d5:=qG ((C.out.below (by first|(with_reducible exact j)|(with_reducible exact q))).keep A aa.out).cells.2.1 ((C.out.below (by first|(with_reducible exact j)|(with_reducible exact q))).keep A aa.out).cells.2.2.1))
  | fail)
 all_goals
  have Q3:jE E w c:=by first|exact(jE.xA j ac.out).trans A|exact(jE.xA q ac.out).trans A
  have B:=qQ (qG h3 Q3);have af:=ae.out c;have aj:=(qU c.1.size c).alloc (qK _) (.cells Z 117);clear ae h3 Q3 A d5 d3 j q o d1 d2 ak c1 c2;go_wp2;go_loopw [45] (fun i wr=>∃k:Nat,k<=m/\i=.int .i64 k/\jy wr c.1.size (.slice (some ⟨c.1.size,0,none⟩) m m) (uz (fp s) m k)/\Below c.1.size c wr) (fun i _=>m-(intOf i).toNat)
  case atStart=>exact⟨0,qI _,rfl,af,aj⟩
  case round =>
   obtain⟨k,r,rfl,u,J⟩:=hrel;clear af aj au;by_cases K:k<m
   ·have s1:(k:Int)<(m:Int):=(by omega);obtain⟨f,ah⟩:∃f:Nat,f=24*k:=⟨_,rfl⟩
    obtain⟨d,ai⟩:∃d:Nat,d=24*k+24:=⟨_,rfl⟩
    have eP:pcP s k=s.extract f d:=(by rw[ah,ai];rfl);have M:=fun W=>UQ (s.extract f d) W (by unfold maxLen;rw[qk];omega)
    have N:=aq.out k K;have R:=HK.out k K;rw[eP]at N R;rw[R]at M;have an:=qQ M;have y1:IntKind.i64.wrap ((k:Int)*24)=(f:Int):=(by rw[qy _ ⟨by omega,by omega⟩];omega);have y2:IntKind.i64.wrap ((k:Int)+1)=(k:Int)+1:=qy _ ⟨by omega,by omega⟩;have y3:IntKind.i64.wrap (((k:Int)+1)*24)=(d:Int):=(by rw[qy _ ⟨by omega,by omega⟩];omega);have x1:(f:Int)<=(d:Int):=(by omega);have x2:(d:Int)<=(s.size:Int):=(by omega);have x3:f<=d:=(by omega);have x4:d<=s.size:=(by omega);have H:=qQ u;have p:=qQ J;have ap:=qQ N;clear eP ah ai u J M R N hs;generalize enG (s.extract f d)=x at*;obtain⟨V,Y,X⟩:=x;go_wp2_with fail;refine KG (an.out _) fun w4 I=>?_;have O:=jy.below (H.out.below I (qK _)) ((qU w4.1.size w4).alloc (qK _) (.cells #[.int .u64 (V:Nat),Y,X] 117)) (qK _);obtain⟨⟨y,q0,q1,q2⟩,f0,f1,f2⟩:=O.at_ (ad.out k).symm K;have P:=O.put (ad.out k).symm K ⟨V,Y,X⟩;rw[ap.out]at P;have R4:=qQ P;have B4:=qQ ((bj p.out I).alloc (bj p.out I).size (.cells #[.int .u64 (V:Nat),Y,X] 117));clear P O I;go_wp2;exact⟨⟨k+1,by omega,by go_num,R4.out,Zj B4.out (qK _) _ _ _⟩,by simp[intOf];omega⟩
   ·obtain rfl:k=m:=(by omega);have s1:¬(k:Int)<(k:Int):=(by omega);rw[ao.out]at u;have H:=qQ u;have p:=qQ J;clear u J;go_wp2;go_ret2;have L:=B.out.2.size;have az:c.1.size<=wr.1.size:=p.out.size;refine⟨some ⟨c.1.size,0,none⟩,k,by rw[ab.out];rfl,by rw[ab.out];exact jy.down H.out L, ?_,B.out.2.trans (jE.xA p.out B.out.1.lt)⟩
    exact B.out.1.more api p.out (fun b o=>by
     obtain rfl:b=c.1.size:=by simpa[jL,Value.ownBlock] using o
     exact⟨qK _,by
      rcases H.out.2 with⟨e,-⟩|⟨g,ax,ay,e,hg,hh,-⟩
      ·cases e
      ·have e2:=(Value.slice.inj e).1;have e3:c.1.size=g:=(by simpa using e2);rw[e3];exact(ql.1 hh).1⟩)
end
def yj(D:jD)(n:Int)(l:List jC):Prop:=∃f,jN D.l (ptT n)=some f/\yw f.data=true/\tgL f.data=l
theorem yj.count{D:jD}{n:Int}{l:List jC}(h:yj D n l)(k:Nat):yj { D with count:=k } n l:=h
theorem yj.ready{D:jD}{n:Int}{l:List jC}(h:yj D n l)(b:D.down=false):tL D n=0:=by
 obtain⟨f,a,c,d⟩:=h;unfold tL;rw[mj b a];rfl
theorem yj.props{D:jD}{n:Int}{l:List jC}(h:yj D n l):kG l/\(∀x∈l,mayE x=true)/\∀x∈l,kz x:=by
 obtain⟨f,d,a,rfl⟩:=h;obtain⟨b,c,i⟩:=Yv a;exact⟨b,c,Yy _⟩
theorem yj.read{D:jD}{n:Int}{l:List jC}(h:yj D n l)(d:D.down=false){lo m:Nat}(i:lo+m<=l.length):∃s,vE D (ptT n) ((8+24*lo:Nat):Int) ((24*m:Nat):Int)=(s,0, { D with count:=D.count+1 })/\s.size=24*m/\okP s m=true/\fm s m=(l.drop lo).take m:=by
 obtain⟨f,c,b,rfl⟩:=h;obtain⟨j,k,o⟩:=Yv b;have a:=OL (lo:=lo) (hi:=lo+m) b i;rw[show 8+24*(lo+m)=8+24*lo+24*m by omega,show lo+m-lo=m by omega]at a;exact⟨_,pP d c (by omega),by rw[qk];omega,a.1,a.2⟩
section
variable {At:jR}(api:jS At)(nap:jw){w0 w:World}{gt gd:Nat}{D:jD}{E G:List Nat}{n:Int}{l:List jC}{t:Tw}
include api nap
theorem Zv(h:DS At w0 gd D E w)(p:yE w gt gd n l t G)(i:∀b∈G,b∈E)(ok:WfP D)(k:D.count<=1099511627776)(q:(Lit.int .i64 n).wf=true)(o:D.down=false)(j:yj D n l)(lo hi:Nat)(v:lo<=hi)(r:hi<=l.length)(u:l.length<=40000):
  Calls prog 169 #[ptr gt,lo,hi] w (mw At w0 gd ((l.drop lo).take (hi-lo)) 0 { D with count:=D.count+1 } E w):=by
 obtain⟨s,a,c,d,f⟩:=j.read (lo:=lo) (m:=hi-lo) o (by omega);rw[<-f];exact PB api nap h p i ok k q lo hi (hi-lo) (by omega) (by omega) s a c d
theorem PC(h:DS At w0 gd D E w)(f:yE w gt gd n l t G)(r:∀b∈G,b∈E)(ok:WfP D)(u:D.count<=1099511627776)(p:(Lit.int .i64 n).wf=true)(o:D.down=false)(k:yj D n l)(K:l.length<=40000):
  Calls prog 122 #[ptr gt] w (mw At w0 gd l 0 { D with count:=D.count+1 } E w):=by
 have s:=qQ (Zq api nap h f ok p);rw[k.ready o]at s;have j:=qQ fun W (d:Below w.1.size w W)=>Zv api nap (h.below api d) (f.below d) r ok u p o k 0 l.length (qI _) (qK _) K
 rw[List.drop_zero,show l.length-0=l.length from rfl,List.take_length]at j;have I:=qQ fun W (d:Below w.1.size w W)=>(f.below d).cells
 have J:=qQ h.lt;clear h f r ok u p o k;generalize v:l.length=m at*;have L:=qQ v;clear v;go_enter func122,ntmps122;go_wp2_with fail;refine s.out.mono ?_;rintro e C⟨rfl,a⟩;obtain⟨c0,c1,c2,M⟩:=I.out C a;have H:=qQ (j.out C a);have q:=qQ (jE.xA a J.out);clear a c0 c1 c2 j;go_wp2_with fail;refine H.out.mono ?_;rintro e N⟨A,c,rfl,y,z,B⟩;have i:=qQ (qG y (qG z B));clear y z B;go_wp2;go_ret2;exact⟨A,c,rfl,i.out.1.down q.out.size,i.out.2.1,q.out.trans i.out.2.2⟩
theorem PD(h:DS At w0 gd D E w)(m:yE w gt gd n l t G)(hG:∀b∈G,b∈E)(ok:WfP D)(hc:D.count<=1099511627776)(V:(Lit.int .i64 n).wf=true)(P:D.down=false)(B:yj D n l)(hk:bR t l=true)(hl:l.length<=40000)
  (x:Nat) (hx:x<18446744073709551616) (a b:Int) (wa:(Lit.int .i64 a).wf=true) (wb:(Lit.int .i64 b).wf=true):
  Calls prog 107 #[ptr gt,.int .u64 (x:Nat),a,.int .i64 b] w fun e w'=>∃k,k<=1/\(dq l t x=false->k=0)/\mw At w0 gd (vQ l x a (min b 1073741824)) 0 { D with count:=D.count+k } E w e w':=by
 obtain⟨o,T,ab⟩:=B.props;have ba:=bounds_i64 wa;have bb:=bounds_i64 wb;obtain⟨d,O⟩:∃d,min b 1073741824=d:=⟨_,rfl⟩
 have i1:(if (1073741824:Int)<b then 1073741824 else b)=d:=by rw[<-O];split<;>omega
 have i2:IntKind.i64.wrap (d+1)=d+1:=qy _ ⟨by omega,by omega⟩;rw[O];have af:=qQ h.lt;have z:=qQ (Zq api nap h m ok V);rw[B.ready P]at z;have r:=qQ fun W (f:Below w.1.size w W)=>UE (m.below f) x hx
 have p:Hid (∀w':World,Below w.1.size w w'->vQ l x a d=[]->∃k,k<=1/\(dq l t x=false->k=0)/\mw At w0 gd (vQ l x a d) 0 { D with count:=D.count+k } E w (.returned (.tuple #[.slice none 0 0,.int .i64 0])) w'):=qQ fun w' C e=>by
  rw[e];exact⟨0,by omega,fun _=>rfl,none,0,rfl,jy.nil _ _,h.below api C,jE.xA C h.lt⟩
 cases H:dq l t x with
 | false =>
   rw[H]at r p;have Q:=(Yd hk H a d).1;rw[Q]at p ⊢;clear h m hG ok hc V P B hk hl hx wa wb o T ab ba bb O i2 Q H;go_enter func107,ntmps107;go_wp2_with fail;refine KG z.out fun w1 i=>?_;go_wp2_with fail;refine KG (r.out _ i) fun w2 j=>?_;go_wp2;go_ret2;exact p.out _ (bj i j) (by first|rfl|trivial)
 | true =>
   rw[H]at r p;obtain⟨lo,h1,s⟩:=Z6 o (by omega) ⟨x,a,0⟩;obtain⟨l2,hi,I⟩:=Z6 o (by omega) ⟨x,d+1,0⟩;have J:=s.jJ;have u:=I.zj;rw[ZN T]at J u;rw[Yb]at u;have a3:=s.top;have a4:=I.top;have a5:=s.zj;rw[ZN T]at a5;have Z:=qQ fun W (f:Below w.1.size w W)=>Zx (m.below f) (by omega) x a s
   have aa:=qQ fun W (f:Below w.1.size w W)=>Zx (m.below f) (by omega) x (d+1) I
   by_cases ae:lo<hi
   ·have ad:=qQ fun W (f:Below w.1.size w W)=>Zv api nap (h.below api f) (m.below f) hG ok hc V P B lo hi (by omega) a4 hl
    have f:=Yc (lo:=lo) (hi:=hi) o J u;have ah:((l.drop lo).take (hi-lo)).length=hi-lo:=(by rw[qT,xQ];omega);have ac:=qQ fun(v:Value) W (hv:kC W v ((l.drop lo).take (hi-lo)))=>UV v _ x a d W hv (by omega) (fun y hy=>ab y (Yg hy)) (ZM o _ _)
    rw[f]at ac;have t1:decide ((hi:Int)<=(lo:Int))=false:=qA (by omega);have t2:¬(hi:Int)<=(lo:Int):=(by omega);generalize vQ l x a d=R at*;generalize (l.drop lo).take (hi-lo)=S at*;clear h m hG ok hc V P B hk hl hx wa wb o T ab ba bb O H s I J u a3 a4 a5 p f ah ae;go_enter func107,ntmps107;go_wp2_with fail;refine KG z.out fun w1 i=>?_;go_wp2_with fail;refine KG (r.out _ i) fun w2 K=>?_;have j:=bj i K;clear K i z r;go_wp2_with fail;refine KG (Z.out _ j) fun w3 L=>?_;have q:=bj j L;clear L j Z;go_wp2_with fail;refine KG (aa.out _ q) fun w4 N=>?_;have M:=bj q N;clear N q aa;go_wp2_with fail;refine(ad.out _ M).mono ?_;rintro e w5⟨A,c,rfl,U,r2,r3⟩;have X:=qQ (qG r2 ((jE.xA M af.out).trans r3));have ag:=qQ (ac.out _ _ U.xE);clear U r2 r3 M ad ac;go_wp2_with fail;refine ag.out.mono ?_;rintro e w6⟨A2,c2,rfl,U,b6⟩;have Y:=qQ (qG U b6);clear U b6;go_wp2;go_ret2;exact⟨1,qK _,fun e=>by simp at e,A2,c2,rfl,Y.out.1.down X.out.2.size,(X.out.1.less (fun b C=>qJ _ C)).more api Y.out.2 (fo Y.out.1),X.out.2.trans (jE.xA Y.out.2 (fun b C=>X.out.1.lt b (qJ _ C)))⟩
   ·have Q:=OR (b:=d) o J u (by omega);have t1:decide ((hi:Int)<=(lo:Int))=true:=qB (by omega);have t2:(hi:Int)<=(lo:Int):=(by omega);rw[Q]at p ⊢;clear h m hG ok hc V P B hk hl hx wa wb o T ab ba bb O H s I J u a3 a4 a5 Q ae;go_enter func107,ntmps107;go_wp2_with fail;refine KG z.out fun w1 i=>?_;go_wp2_with fail;refine KG (r.out _ i) fun w2 K=>?_;have j:=bj i K;clear K i z r;go_wp2_with fail;refine KG (Z.out _ j) fun w3 L=>?_;have q:=bj j L;clear L j Z;go_wp2_with fail;refine KG (aa.out _ q) fun w4 N=>?_;have M:=bj q N;clear N q aa;go_wp2;go_ret2;exact p.out _ M (by first|rfl|trivial)
end
end
section
open Go.RowKit Go.Shelf
theorem UN(v:Value)(l:List jC)(h:Nat)(n:Int)(w:World)(P:kC w v l)(hn:l.length<=1000000)(Q:∀x∈l,kz x)(s:kG l):
  Calls prog 195 #[v,.int .u64 (h:Nat),n] w (X3 (.tuple #[kv (vm l h n),.bool (yZ l h n)]) w):=by
 have o:vG (w.alloc (.cells #[.int .u64 ((0:Nat):Int),.int .i64 0,.int .i64 0] 117)) w.1.size 0 0 0:=jF.new _ _ _;have i:=(qU w.1.size w).alloc (qK _) (.cells #[.int .u64 ((0:Nat):Int),.int .i64 0,.int .i64 0] 117);have B:=P.below i (qK _);have q:=qQ (UZ v l h n _ B hn Q s);have j:=Z2 s h n;have hK:fi l h n<=l.length:=rX _ l;generalize fi l h n=K at*;obtain⟨A,off,aa,rfl,-,N⟩:=B.form;by_cases R:K=0
 ·subst R;have e:=Xr j;have c:vm l h n=⟨0,0,0⟩:=by unfold vm;rw[e];rfl
  have d:yZ l h n=false:=by unfold yZ;rw[e];rfl
  rw[c,d];clear N P B j e c d Q s;generalize l.length=m at*;go_enter func195,ntmps195;go_wp2_with fail;refine q.out.mono ?_;rintro e L⟨rfl,a⟩;have f:vG L w.1.size 0 0 0:=jF.below o a;have z:=bj i a;clear o i a q;obtain⟨H,I,J,T,U,V⟩:=f.facts;go_wp2;exact bodyPost_ret (v:=.tuple #[kv ⟨0,0,0⟩,.bool false]) (by simp[results,Tryz.results195,go_sem,H,I,J]) rfl ⟨rfl,lf z (qK _) _ _ _⟩
 ·obtain⟨k,S⟩:∃k,K=k+1:=⟨K-1,by omega⟩
  have Z:k<l.length:=by omega
  obtain⟨x,C⟩:∃x,l[k]? = some x:=⟨_,qD Z⟩
  obtain⟨b,rfl,M,r,u,y⟩:=N k x C;have q1:(K:Int)-1=(k:Int):=by omega
  have q2:((K:Int)==0)=false:=qg.2 (by omega);have q3:IntKind.i64.wrap ((k:Nat):Int)=(k:Nat):=qy _ ⟨by omega,by omega⟩;rw[S]at j;by_cases O:x.h=h
  ·have e:=Xn j C O;have c:vm l h n=x:=(by unfold vm;rw[e];rfl);have d:yZ l h n=true:=(by unfold yZ;rw[e];rfl);rw[c,d];have t:((x.h:Int) != (h:Int))=false:=(by simp;omega);clear N P B j e c d Q s C;generalize l.length=m at*;obtain⟨W,Y,X⟩:=x;simp only at r u y t;go_enter func195,ntmps195;go_wp2_with fail;refine q.out.mono ?_;rintro e L⟨rfl,a⟩;have f:vG L w.1.size 0 0 0:=jF.below o a;have z:=bj i a;have c0:=(a.cell (p:=⟨b,off+k*3,none⟩) M).trans r;have c1:=(a.cell (p:=⟨b,off+k*3+1,none⟩) M).trans u;have c2:=(a.cell (p:=⟨b,off+k*3+2,none⟩) M).trans y;clear o i a q r u y S R O;obtain⟨H,I,J,T,U,V⟩:=f.facts;clear f;go_wp2;exact bodyPost_ret (v:=.tuple #[kv ⟨W,Y,X⟩,.bool true]) (by simp[results,Tryz.results195,go_sem,H,I,J]) rfl ⟨rfl,lf z (qK _) _ _ _⟩
  ·have e:=Xp s j C O;have c:vm l h n=⟨0,0,0⟩:=(by unfold vm;rw[e];rfl);have d:yZ l h n=false:=(by unfold yZ;rw[e];rfl);rw[c,d];have t:((x.h:Int) != (h:Int))=true:=(by simp;omega);clear N P B j e c d Q s C;generalize l.length=m at*;obtain⟨W,Y,X⟩:=x;simp only at r u y t;go_enter func195,ntmps195;go_wp2_with fail;refine q.out.mono ?_;rintro e L⟨rfl,a⟩;have f:vG L w.1.size 0 0 0:=jF.below o a;have z:=bj i a;have c0:=(a.cell (p:=⟨b,off+k*3,none⟩) M).trans r;clear o i a q r u y S R O;obtain⟨H,I,J,T,U,V⟩:=f.facts;clear f;go_wp2;exact bodyPost_ret (v:=.tuple #[kv ⟨0,0,0⟩,.bool false]) (by simp[results,Tryz.results195,go_sem,H,I,J]) rfl ⟨rfl,lf z (qK _) _ _ _⟩
end
section
open Go.RowKit Go.Shelf
abbrev mtp(g:Nat):Value:=.pointer (some ⟨g,0,none⟩)
def vZ(w:World)(base g:Nat)(F:List Nat)(l:List jC):Prop :=
 ∃v,jF w g 168 #[mtp g,v]/\jy w base v l/\(∀k,v.ownBlock=some k->k∈F)/\g∈F/\(∀x∈F,base<=x/\x<w.1.size)/\kG l/\∀x∈l,kz x
def cU(base g:Nat)(F:List Nat)(w:World)(r:Value)(l:List jC)(e:Ending)(w':World):Prop :=
 ∃a,e=.returned r/\vZ w' base g a l/\(∀x∈a,x∈F∨w.1.size<=x)/\jH F w w'
section
variable {w w':World}{base g:Nat}{F G:List Nat}{l:List jC}
theorem vZ.xC(h:vZ w base g F l)(a:jH G w w')(i:∀x∈F,x ∉ G):vZ w' base g F l:=by
 obtain⟨v,k,m,c,d,f,o,p⟩:=h;exact⟨v,k.xC a (i g d),bw m a (fun b q=>i b (c b q)),c,d,fun x j=>⟨(f x j).1,qS (f x j).2 a.size⟩,o,p⟩
theorem vZ.below(h:vZ w base g F l)(a:Below w.1.size w w'):vZ w' base g F l:=h.xC (jH.xA a) (fun _ _=>by simp)
theorem vZ.drewN(h:vZ w base g F l)(n:Nat):vZ (w.drewN n) base g F l:=h.xC ((jH.refl [] w).drewN n) (fun _ _=>by simp)
theorem vZ.shape(h:vZ w base g F l):∃A c,w.cell? ⟨g,0,none⟩=some (mtp g)/\w.cell? ⟨g,1,none⟩=some (.slice A l.length c)/\w.frozen? ⟨g,1,none⟩=false/\jy w base (.slice A l.length c) l/\g<w.1.size:=by
 obtain⟨v,a,b,d,f,i,j,k⟩:=h;obtain⟨A,c,rfl,-⟩:=v8 b;exact⟨A,c,a.cell 0,a.cell 1,a.frozen 1,b,a.lt⟩
end
theorem UO: (prog.info? 168).map (·.size)=some 2:=by kernel_rfl
theorem PE(d:Nat)(p:Addr)(w:World):(Op.equalIn (d+1) 109 (.pointer (some p)) (.pointer (some p))).run prog w=.ok true w:=by
 cases a:prog.info? 168 with
 | none=>have:=UO;rw[a]at this;cases this
 | some i =>
   have b:i.size=2:=(by have:=UO;rw[a]at this;simpa using this);simp[Op.equalIn,run_underlying Tryz.underlying109,sizeOf,typeInfo,a,sameAddr]
theorem PF(p:Addr)(w:World):(binOp .neq 109 (.pointer (some p)) (.pointer (some p))).run prog w=.ok (.bool false) w:=by
 have a:(Op.equal 109 (.pointer (some p)) (.pointer (some p))).run prog w=.ok true w:=PE 9999 p w;simp only[binOp];simp[a]
theorem Zy{w:World}{g:Nat}(h:w.cell? ⟨g,0,none⟩=some (mtp g)):Calls prog 119 #[mtp g] w (X0 (.bool false) w):=by
 have a:=PF ⟨g,0,none⟩;go_enter func119,ntmps119;go_wp2;go_ret;exact⟨rfl,rfl⟩
theorem UP{w:World}{g n c:Nat}{A:Option Addr}(h:w.cell? ⟨g,0,none⟩=some (mtp g))(b:w.cell? ⟨g,1,none⟩=some (.slice A n c)):Calls prog 110 #[mtp g] w (X0 (.slice A n c) w):=by
 have a:=qQ (Zy h);go_enter func110,ntmps110;go_wp2_with fail;refine X5 a.out ?_;go_wp2;go_ret;exact⟨rfl,rfl⟩
theorem PH{w:World}{g base:Nat}{F:List Nat}{l:List jC}(h:vZ w base g F l):Calls prog 63 #[mtp g] w (X0 (.int .i64 (l.length:Nat)) w):=by
 obtain⟨A,c,c0,c1,-,-,-⟩:=h.shape;have a:=qQ (UP c0 c1);clear h c0 c1;generalize l.length=n at*;go_enter func63,ntmps63;go_wp2_with fail;refine X5 a.out ?_;go_wp2;go_ret;exact⟨rfl,rfl⟩
def PI(w:World)(e:Ending)(w':World):Prop:=e=.returned (mtp w.1.size)/\vZ w' w.1.size w.1.size [w.1.size] []/\Below w.1.size w w'/\w.1.size<w'.1.size
theorem PL(w:World):Calls prog 193 #[] w (PI w):=by
 go_enter func193,ntmps193;go_wp2;go_ret;have a:jF (w.alloc (.cells #[mtp w.1.size,.slice none 0 0] 168)) w.1.size 168 #[mtp w.1.size,.slice none 0 0]:=jF.new _ _ _;have c:=(qU w.1.size w).alloc (qK _) (.cells #[mtp w.1.size,.slice none 0 0] 168);exact⟨rfl,⟨.slice none 0 0,a,jy.nil _ _,fun k d=>(by cases d),by simp,fun x b=>by obtain rfl:=qH.1 b;exact⟨qK _,a.lt⟩,List.Pairwise.nil,fun x b=>by cases b⟩,c,a.lt⟩
theorem PM{w:World}{g base:Nat}{F:List Nat}{l:List jC}(h:vZ w base g F l):Calls prog 69 #[mtp g] w (cU base g F w (.tuple #[]) []):=by
 have i:=qQ h;obtain⟨A,c,c0,c1,q,-,-⟩:=h.shape;have o:=qQ (Zy c0);clear h;go_enter func69,ntmps69;go_wp2_with fail;refine X5 o.out ?_;go_wp2;go_end0;obtain⟨v,j,r,s,b,d,u,y⟩:=i.out;have f:=j.put 1 (.slice none 0 0);exact⟨F,rfl,⟨.slice none 0 0,f,jy.nil _ _,fun k m=>(by cases m),b,fun x a=>⟨(d x a).1,by simpa[World.setCell] using (d x a).2⟩,List.Pairwise.nil,fun x a=>by cases a⟩,fun x a=>qX a,(jH.refl F w).setCell (p:=⟨g,1,none⟩) (qX b) _⟩
end
section
open Go.RowKit Go.Shelf
theorem PN{w:World}(a:Addr)(f:Value)(m:List jC)(A:kC w f m)(y:m≠[])(C:m.length<=1000000)(ty:TypeId):
  (Builtin.append_ #[112,112] ty #[.slice (some a) 0 0,f]).run prog w=(Builtin.append_ #[112,112] ty #[.slice none 0 0,f]).run prog w:=by
 have z:0<m.length:=List.length_pos_iff.2 y;obtain⟨i,k,p,q,r⟩:=info_parts ZP;obtain⟨o,B⟩:=A.src;rcases B with⟨c,rfl,d⟩|⟨b,c,rfl,d⟩
 ·omega
 ·have s:=run_append_grow (P:=prog) w 112 ty 117 i _ Tryz.underlying112 k p a 0 0 [] (by simp) (fun j v h=>by simp at h) b m.length c (yM m) (by rw[q];exact o) d (by omega) (by omega) (growslice_fits (by omega) (by rw[r];omega));have u:=run_append_nil (P:=prog) w 112 ty 117 i _ Tryz.underlying112 k p b m.length c (yM m) (by rw[q];exact o) d z (by omega) (by rw[r];omega);rw[s,u];simp
theorem PO{w:World}{base:Nat}{d:Value}{m:List jC}(A:Option Addr)(i:kC w d m)(j:m≠[])(f:m.length<=1000000)(k:base<=w.1.size)(ty:TypeId):
  ∃b c w',(Builtin.append_ #[112,112] ty #[.slice A 0 0,d]).run prog w=.ok (.slice b m.length c) w'/\jy w' base (.slice b m.length c) m/\w.grownBy w' none/\((Value.slice b m.length c).ownBlock=none∨(Value.slice b m.length c).ownBlock=some w.1.size):=by
 have h:=pw (jy.nil w base) i (by simpa using f) k ty;simp only[List.length_nil,Nat.zero_add,List.nil_append]at h;cases A with
 | none=>exact h
 | some a =>
   rw[PN a d m i j f ty];exact h
theorem PP{C:Array Oper}{o:Oper}{a:Act}{w:World}{K:Act->World->Prop}{Q:Exit->Act->World->Prop}{E:Prop}{d:Value}{base:Nat}{A:Option Addr}{m:List jC}(r:o.guard=none)(s x:Operand)
  (v:o.op=.call { callee:=.builtin .append,args:=#[s,x],argTypes:=#[112,112] }) (y:a.eval s=.slice A 0 0) (B:a.eval x=d)
  (z:kC w d m) (p:m≠[]) (u:m.length<=1000000) (q:base<=w.1.size)
  (h:∀b w',jy w' base b m->w.grownBy w' none->(b.ownBlock=(Value.slice none 0 0).ownBlock∨b.ownBlock=some w.1.size)->K (a.put o.dst b) w'):
  if Region.wanted o (yielded C a.tmps)=true then Oper.wp prog o a w K Q else E:=by
 obtain⟨H,c,w',f,i,j,k⟩:=PO A z p u q o.type;exact Qm r s x _ v y B f (h _ w' i j k)
theorem PR{w:World}{base n c k:Nat}{A:Option Addr}{l:List jC}(h:jy w base (.slice A n c) l)(i:n=l.length)(v:k<=n):jy w base (.slice A k c) (l.take k)/\sliced A 0 k c 3=.slice A k c/\k<=c:=by
 subst i;have a:(l.take k).length=k:=by rw[qT];omega
 rcases h.2 with⟨d,u⟩|⟨g,s,b,d,m,o,i,p,q,r⟩
 ·obtain⟨rfl,-,rfl⟩:=Value.slice.inj d;obtain rfl:k=0:=by omega
  rw[List.take_zero];exact⟨jy.nil _ _,rfl,qK _⟩
 ·obtain⟨rfl,-,rfl⟩:=Value.slice.inj d;refine⟨⟨?_,qY ⟨g,c,b,by rw[a],m,o,by rw[a];omega,p,q, ?_⟩⟩, ?_,by omega⟩
  ·rw[oE]
  ·have e:yM l=yM (l.take k)++yM (l.drop k):=(by rw[<-Yp,qe]);rw[a];have j:b.toList.take (k*3)=(b.toList.take (l.length*3)).take (k*3):=(by rw[List.take_take];congr 1;omega);rw[j,r,e,List.take_left' (by rw[oE,a])]
  ·unfold sliced;by_cases f:c=0
   ·rw[qV f];simp
   ·rw[qZ f];simp[Addr.add]
theorem PS{n c k:Nat}{A:Option Addr}(b:k<=c)(W:World):(Instr.slice 112 (.slice A n c) (some (.int .i64 (k:Nat))) (some (.int .i64 (k:Nat))) (some (.int .i64 (k:Nat)))).run prog W=.ok (.slice A 0 0) W:=by
 have a:(sizeOf (prog.elem 112)).run prog W=.ok 3 W:=by simp[go_sem]
 rw[run_slice_lhm W _ _ _ c Tryz.underlying112 .i64 .i64 .i64 _ _ _ (by omega) (by omega) (by omega) (by omega),a];show Result.ok (sliced _ _ _ _ _) W=_;rw[qm];unfold sliced;rw[qV rfl,Nat.sub_self]
theorem PT{n c k:Nat}{A:Option Addr}(b:k<=c)(e:sliced A 0 k c 3=.slice A k c)(W:World):(Instr.slice 112 (.slice A n c) none (some (.int .i64 (k:Nat))) none).run prog W=.ok (.slice A k c) W:=by
 have a:(sizeOf (prog.elem 112)).run prog W=.ok 3 W:=by simp[go_sem]
 rw[run_slice_h W _ _ _ c Tryz.underlying112 .i64 _ (by omega) (by omega),a];show Result.ok (sliced _ _ _ _ _) W=_;rw[qm,e]
theorem Zu: (117:TypeId)≠168:=by decide
theorem P0{w w1 j d:World}{base g n c:Nat}{F:List Nat}{A:Option Addr}{l m:List jC}{x:jC}{a:Value}(h:vZ w base g F l)(i:kz x)(M:vz l x=m)
  (U:jy w base (.slice A n c) l) (hF:∀k,(Value.slice A n c).ownBlock=some k->k∈F) (O:jH [] w w1) (H:Below w1.1.size w1 j) (I:j.grownBy d (Value.slice A n c).ownBlock) (L:jy d base a m)
  (S:a.ownBlock=(Value.slice A n c).ownBlock∨a.ownBlock=some j.1.size):cU base g F w (.tuple #[]) m (.returned (.tuple #[])) (d.setCell ⟨g,1,none⟩ a):=by
 obtain⟨v,C,W,X,r,o,Q,R⟩:=h;have P:jH F w j:=(O.trans (jH.xA H) (fun x i=>by cases i)).more (fun x i=>by cases i);have V:jH F w d:=P.grown I (fun k f=>qX (hF k f));have q:jH F w (d.setCell ⟨g,1,none⟩ a):=V.setCell (p:=⟨g,1,none⟩) (qX r) a;have T:(Value.slice A n c).ownBlock≠some g:=vJ U C Zu;have u:jF j g 168 #[mtp g,v]:=C.xC (O.trans (jH.xA H) (fun x i=>by cases i)) (by simp);have z:jF d g 168 #[mtp g,v]:=(I.block g u.lt (fun e=>T e.symm)).trans u;have B:jF (d.setCell ⟨g,1,none⟩ a) g 168 #[mtp g,a]:=z.put 1 a;have s:jy (d.setCell ⟨g,1,none⟩ a) base a m:=vu L (vJ L z Zu) a
 have K:∀y∈m,kz y:=fun y b=>by
  rw[<-M]at b;rcases tJ b with k|k
  ·exact R y k
  ·rw[k];exact i
 have N:kG m:=by rw[<-M];exact Vd Q x
 have Y:(d.setCell ⟨g,1,none⟩ a).1.size=d.1.size:=by simp[World.setCell]
 rcases S with e|e
 ·exact⟨F,rfl,⟨a,B,s,fun k f=>hF k (by rw[<-e];exact f),r,fun y b=>⟨(o y b).1,qS (o y b).2 q.size⟩,N,K⟩,fun y b=>qX b,q⟩
 ·have J:=s.lt _ e;refine⟨j.1.size::F,rfl,⟨a,B,s,fun k f=>?_,qF _ r,fun y b=>?_,N,K⟩,fun y b=>?_,q⟩
  ·rw[e]at f;injection f with f;rw[<-f];exact qC
  ·rcases qL.1 b with k|k
   ·rw[k];exact⟨J.1,J.2⟩
   ·exact⟨(o y k).1,qS (o y k).2 q.size⟩
  ·rcases qL.1 b with k|k
   ·rw[k];exact qY P.size
   ·exact qX k
end
section
open Go.RowKit Go.Shelf
attribute [local go_sem ↓] Go.wp_at_zero Go.wp_at_succ
theorem P4{w:World}{base g:Nat}{F:List Nat}{l:List jC}{x:jC}(h:vZ w base g F l)(u:kz x)(hn:l.length<=100000)(ai:x ∉ l):
  Calls prog 207 #[mtp g,.int .i64 (vW l x:Nat),kv x] w (cU base g F w (.tuple #[]) (vz l x)):=by
 have HT:=qQ h;obtain⟨v,K,i,S,T,U,h6,h7⟩:=h;obtain⟨A,c,rfl,ar,av,-,-⟩:=v8 i;have X:=Xf l x;obtain⟨n,r⟩:∃n,n=l.length:=⟨_,rfl⟩
 obtain⟨k,V⟩:∃k,k=vW l x:=⟨_,rfl⟩
 have HL:=qQ (Mw ai);rw[<-V]at X HL ⊢;rw[<-r]at X ar K i S hn;have ag:kC w (.slice A n c) l:=by rw[r]at i ⊢;exact jy.xE i
 obtain⟨rt,rs,rk⟩:=PR i r X;have f:vG (w.alloc (.cells #[.int .u64 (x.h:Nat),.int .i64 x.v,.int .i64 x.p] 117)) w.1.size x.h x.v x.p:=jF.new _ _ _;have o:jH [] w (w.alloc (.cells #[.int .u64 (x.h:Nat),.int .i64 x.v,.int .i64 x.p] 117)):=(jH.refl [] w).alloc _;obtain⟨B,hB⟩:∃B,w.1.size=B:=⟨_,rfl⟩
 rw[hB]at f;obtain⟨b,au⟩:∃b,w.alloc (.cells #[.int .u64 (x.h:Nat),.int .i64 x.v,.int .i64 x.p] 117)=b:=⟨_,rfl⟩
 rw[au]at f o;have ah:kC b (.slice A n c) l:=ag.below (B:=w.1.size) (o.below (qK _) (fun x u=>by cases u)) (qK _);have I:jF b g 168 #[mtp g,.slice A n c]:=K.xC o (by simp);obtain⟨A2,c2,q2,Z⟩:=Ya ah (k:=k) (by omega);have q1:=PS (A:=A) (n:=n) rk;have q3:=PT (A:=A) (n:=n) rk rs;rw[<-r]at q2 Z;have HP:=qQ Z
 have HS:Hid (∀W,Below b.1.size b W->Below b.1.size b W/\W.cell? ⟨g,1,none⟩=some (.slice A n c)/\W.cell? ⟨B,0,none⟩=some (.int .u64 (x.h:Nat))/\W.cell? ⟨B,1,none⟩=some (.int .i64 x.v)/\W.cell? ⟨B,2,none⟩=some (.int .i64 x.p)):=qQ fun W q =>
  ⟨q,(q.cell (p:=⟨g,1,none⟩) I.lt).trans (I.cell 1),(q.cell (p:=⟨B,0,none⟩) f.lt).trans (f.cell 0),(q.cell (p:=⟨B,1,none⟩) f.lt).trans (f.cell 1),(q.cell (p:=⟨B,2,none⟩) f.lt).trans (f.cell 2)⟩
 have aa:Hid (∀W,Below b.1.size b W->b.1.size<=W.1.size):=qQ fun W q=>q.size
 have HD:Hid ((l.drop k).length<=100000):=qQ (by rw[xQ,<-r];omega)
 have ak:Hid (∀d j y,Below b.1.size b d->d.grownBy j (Value.slice A n c).ownBlock->jy j base y (l.take k++([x]++l.drop k))->(y.ownBlock=(Value.slice A n c).ownBlock∨y.ownBlock=some d.1.size)->cU base g F w (.tuple #[]) (vz l x) (.returned (.tuple #[])) (j.setCell ⟨g,1,none⟩ y)) :=
  qQ fun d j y a1 a2 a3 a4=>P0 HT.out u rfl i S o a1 a2 (by rw[HL.out];exact a3) a4
 have HG:Hid (∀d,Below b.1.size b d->jF d g 168 #[mtp g,.slice A n c]/\jy d base (.slice A k c) (l.take k)/\base<=d.1.size):=qQ fun d a=>by
  have af:Below w.1.size w d:=(o.below (qK _) (fun x u=>by cases u)).trans (a.mono o.size);exact⟨I.xC (jH.xA a) (by simp),jy.below rt af (qK _),qR (U g T).1 (qR (Nat.le_of_lt (U g T).2) af.size)⟩
 have an:Hid ((Value.slice A k c).ownBlock=(Value.slice A n c).ownBlock):=qQ (by cases A<;>rfl);have am:Hid ((Value.slice A n c).ownBlock≠some g):=qQ (vJ i K Zu);have ao:Hid ((l.take k).length=k):=qQ (by rw[qT];omega);obtain⟨-,s0,s1,s2,s3⟩:=HS.out b (qU _ _);have aw:∀H:World,H=b->H=b:=fun _ h=>h
 clear K i S T U h6 h7 ag rt rs o ah I f Z HT ai;have HN:=qQ r;have HK:=qQ V;clear r V;generalize vz l x=R at*;go_enter func207,ntmps207;go_wp2_with fail
 go_region_held_law (fun W=>Below b.1.size b W/\W.cell? ⟨g,1,none⟩=some (.slice A n c)/\W.cell? ⟨B,0,none⟩=some (.int .u64 (x.h:Nat))/\W.cell? ⟨B,1,none⟩=some (.int .i64 x.v)/\W.cell? ⟨B,2,none⟩=some (.int .i64 x.p))
  (first|(with_reducible assumption)|((with_reducible refine HS.out _ ?_);(repeat' (first|(with_reducible assumption)|(with_reducible exact qU _ _)|(with_reducible refine Below.drew ?_)|(with_reducible refine rZ ?_ _)|exact And.left (by with_reducible assumption)));done)|fail)
  (first
  | (refine PP (A:=A) (m:=[x]) (base:=b.1.size) (by rfl) _ _ (by rfl) (by rfl) (by rfl) (Yr _ x) (by simp) (by simp) (aa.out _ (by first|(with_reducible exact And.left (by with_reducible assumption))|(refine rZ ?_ _;exact And.left (by with_reducible assumption)))) ?_;intro v1 V1 aj ad ab;have P:∀z,v1.ownBlock=some z->b.1.size<=z:=UW (by first|(with_reducible exact And.left (by with_reducible assumption))|(refine rZ ?_ _;exact And.left (by with_reducible assumption))) UG ab;have s:Below b.1.size b V1:=UU (by first|(with_reducible exact And.left (by with_reducible assumption))|(refine rZ ?_ _;exact And.left (by with_reducible assumption))) ad UG)
  | (refine Ow (l:=[x]) (m:=l.drop k) (by rfl) _ _ (by rfl) (by rfl) (by rfl) aj (HP.out _ _ (qK _) s) (by have:=HD.out;simp only[List.length_cons,List.length_nil];omega) (aa.out _ s) ?_;intro v2 d Y ae ac;have ap:∀z,v2.ownBlock=some z->b.1.size<=z:=UW s P ac;have L:Below b.1.size b d:=UU s ae P)
  | fail)
 all_goals
  clear ad ab P s aj ae ac ap;obtain⟨J,rT,aq⟩:=HG.out d L;obtain⟨A3,c3,j,e1,e2,C,O⟩:=pw rT (jy.xE Y) (by have:=HD.out;have:=ao.out;simp only[List.length_append,List.length_cons,List.length_nil];omega) aq 112;rw[an.out]at C O;have Q:jF j g 168 #[mtp g,.slice A n c]:=(C.block g J.lt (fun e=>am.out e.symm)).trans J;have al:=qQ (ak.out d j _ L C e2 O);have k1:=Q.cell 1;have f1:=Q.frozen 1;have k2:=J.cell 1;have HE:=qQ e1;obtain⟨A4,c4,rfl,-⟩:=jy.shape Y;clear e1 e2 C O Q J rT Y L;generalize (l.take k).length+([x]++l.drop k).length=N at*;generalize ([x]++l.drop k).length=M at*;go_wp2_with (first|(at_builtin;refine yK rfl _ _ rfl rfl rfl HE.out ?_)|fail);go_end0;exact al.out
end
section
open Go.RowKit Go.Shelf
theorem P6: Enters prog 206:=enters_of func206 (by kernel_rfl) rfl
def nQ(W:World)(B1 B2 g b p:Nat)(v:Value)(x y:jC):Prop:=W.cell? ⟨B1,0,none⟩=some (mtp g)/\W.cell? ⟨g,1,none⟩=some v /\
 W.cell? ⟨B2,0,none⟩=some (.int .u64 (x.h:Nat))/\W.cell? ⟨B2,1,none⟩=some (.int .i64 x.v)/\W.cell? ⟨B2,2,none⟩=some (.int .i64 x.p) /\
 W.cell? ⟨b,p,none⟩=some (.int .u64 (y.h:Nat))/\W.cell? ⟨b,p+1,none⟩=some (.int .i64 y.v)/\W.cell? ⟨b,p+2,none⟩=some (.int .i64 y.p)
theorem nQ.below{W a:World}{B1 B2 g b p:Nat}{v:Value}{x y:jC}(h:nQ W B1 B2 g b p v x y)(s:Below W.1.size W a):nQ a B1 B2 g b p v x y:=by
 have q:∀ {p:Addr} {u:Value},W.cell? p=some u->a.cell? p=some u:=fun {p u} k=>(s.cell (p:=p) (World.block_lt_of_cell? W _ k)).trans k
 obtain⟨c,d,f,i,j,m,o,r⟩:=h;exact⟨q c,q d,q f,q i,q j,q m,q o,q r⟩
theorem P7(B1 B2 g b off n c i:Nat)(x y:jC)(w:World)(hi:i<n)(L:n<=1000000)(j:nQ w B1 B2 g b (off+i*3) (.slice (some ⟨b,off,none⟩) n c) x y):
  Calls prog 206 #[i,mtp B1,mtp B2] w (X3 (.bool (!jb y x)) w):=by
 have a:Hid (∀W,Below w.1.size w W->Below w.1.size w W/\nQ W B1 B2 g b (off+i*3) (.slice (some ⟨b,off,none⟩) n c) x y):=qQ fun W k=>⟨k,j.below k⟩
 have f:=fun W=>oC y x W
 have d:=a.out w (qU _ _);have M:(i:Int)<(n:Int):=by omega
 have N:(n:Int)<=1000000:=by omega
 clear j;generalize jb y x=r at*;have m:=qQ f;clear f;obtain⟨s,v,u⟩:=x;obtain⟨z,B,A⟩:=y;unfold nQ at a d;simp only at a d;obtain⟨-,c0,c1,c2,C,H,I,J,K⟩:=d;go_enter func206,ntmps206;go_wp2_with fail
 go_region_held3 (fun W=>Below w.1.size w W/\W.cell? ⟨B1,0,none⟩=some (mtp g)/\W.cell? ⟨g,1,none⟩=some (.slice (some ⟨b,off,none⟩) n c) /\
  W.cell? ⟨B2,0,none⟩=some (.int .u64 (s:Nat))/\W.cell? ⟨B2,1,none⟩=some (.int .i64 v)/\W.cell? ⟨B2,2,none⟩=some (.int .i64 u) /\
  W.cell? ⟨b,off+i*3,none⟩=some (.int .u64 (z:Nat))/\W.cell? ⟨b,off+i*3+1,none⟩=some (.int .i64 B)/\W.cell? ⟨b,off+i*3+2,none⟩=some (.int .i64 A))
  (first|(with_reducible assumption)|((with_reducible refine a.out _ ?_);(first|(with_reducible assumption)|(with_reducible exact qU _ _)|(with_reducible exact(qU _ _).drew)|exact(bj (And.left (by with_reducible assumption)) ‹Below _ _ _›));done)|fail)
  (first
  | (go_at_call 172;((with_reducible refine(m.out _).mono ?_);rintro e q⟨rfl,p⟩;have o:Below w.1.size w q:=bj (And.left (by with_reducible assumption)) p))
  | fail)
 all_goals
  go_wp2;go_ret;exact⟨rfl,o⟩
end
section
open Go.RowKit Go.Shelf
attribute [local go_sem ↓] Go.wp_at_zero Go.wp_at_succ
theorem cU.since{w W:World}{base g:Nat}{F:List Nat}{r:Value}{l:List jC}{e:Ending}{w':World}(h:cU base g F W r l e w')(b:jH [] w W):cU base g F w r l e w':=by
 obtain⟨c,d,f,i,j⟩:=h;refine⟨c,d,f,fun x a=>?_,(b.more (G:=F) (fun x a=>by cases a)).trans j (fun x a=>qX a)⟩;rcases i x a with k|k
 ·exact qX k
 ·exact qY (qR b.size k)
theorem cU.same{w W:World}{base g:Nat}{F:List Nat}{r:Value}{l:List jC}(h:vZ W base g F l)(b:jH [] w W):cU base g F w r l (.returned r) W :=
 ⟨F,rfl,h,fun x a=>qX a,b.more (fun x a=>by cases a)⟩
theorem P8{w:World}{base g:Nat}{F:List Nat}{l:List jC}{x:jC}(h:vZ w base g F l)(j:kz x)(hn:l.length<=100000):
  Calls prog 150 #[mtp g,kv x] w (cU base g F w (.bool (!decide (x∈l))) (vz l x)):=by
 have HT:=qQ h;obtain⟨A,c,c0,c1,-,al,hg⟩:=h.shape;have Z:kG l:=by obtain⟨v,h1,h2,h3,h4,h5,h6,h7⟩:=h;exact h6
 have aj:=jy.xE al;have J:jH [] w ((w.alloc (.cells #[mtp g] 109)).alloc (.cells #[.int .u64 (x.h:Nat),.int .i64 x.v,.int .i64 x.p] 117)):=((jH.refl [] w).alloc _).alloc _;have S:jF ((w.alloc (.cells #[mtp g] 109)).alloc (.cells #[.int .u64 (x.h:Nat),.int .i64 x.v,.int .i64 x.p] 117)) w.1.size 109 #[mtp g]:=jF.alloc (jF.new _ _ _) _
 have T:vG ((w.alloc (.cells #[mtp g] 109)).alloc (.cells #[.int .u64 (x.h:Nat),.int .i64 x.v,.int .i64 x.p] 117)) (w.1.size+1) x.h x.v x.p:=by
  have:=jF.new (w.alloc (.cells #[mtp g] 109)) 117 #[.int .u64 (x.h:Nat),.int .i64 x.v,.int .i64 x.p];rw[show(w.alloc (.cells #[mtp g] 109)).1.size=w.1.size+1 by simp]at this;exact this
 obtain⟨B,hB⟩:∃B,w.1.size=B:=⟨_,rfl⟩
 rw[hB]at S T;obtain⟨d,ap⟩:∃d,(w.alloc (.cells #[mtp g] 109)).alloc (.cells #[.int .u64 (x.h:Nat),.int .i64 x.v,.int .i64 x.p] 117)=d:=⟨_,rfl⟩
 rw[ap]at S T J;have ad:Below w.1.size w d:=J.below (qK _) (fun x j=>by cases j);have Y:kC d (.slice A l.length c) l:=aj.below ad (qK _);have q:∀ {p:Addr} {u:Value},w.cell? p=some u->d.cell? p=some u:=fun {p u} k=>(ad.cell (p:=p) (World.block_lt_of_cell? w _ k)).trans k
 have d0:=q c0;have H:=q c1;have X:=S.cell 0;obtain⟨x0,x1,x2,-,-,-⟩:=T.facts;have hK:=Xf l x;obtain⟨n,M⟩:∃n,n=l.length:=⟨_,rfl⟩
 obtain⟨K,I⟩:∃K,K=vW l x:=⟨_,rfl⟩
 have HF:=qQ Y.form;have U:=qQ Y;rw[<-M]at c1 H Y hn hK U;rw[<-I]at hK;have an:Enters prog 206:=P6;have au:∀(fn:Fn) (first ah:Array Value) (w:World),(Instr.makeFunc fn first ah).run prog w=.ok (.func fn first ah) w:=fun _ _ _ _=>rfl
 have ab:Hid (Calls prog 205 #[.int .i64 (n:Nat),.func (.func 206) #[] #[mtp B,mtp (B+1)]] d (KW K d)):=qQ (by
  refine Da _ _ _ n K d (by omega) hK an (fun i W hi L=>?_);obtain⟨y,m⟩:∃y,l[i]? = some y:=⟨_,qD (by rw[<-M];exact hi)⟩
  obtain⟨b,off,rfl,-,-,s,z,C⟩:=tP U.out m;have hA:nQ d B (B+1) g b (off+i*3) (.slice (some ⟨b,off,none⟩) n c) x y:=⟨X,H,x0,x1,x2,s,z,C⟩
  have:=P7 B (B+1) g b off n c i x y W hi (by omega) (hA.below L);rw[NQ Z m,<-I]at this;exact this)
 have ae:=qQ (Zy d0)
 have af:Hid (∀W,Below d.1.size d W->x ∉ l->Calls prog 207 #[mtp g,.int .i64 (K:Nat),kv x] W (cU base g F W (.tuple #[]) (vz l x))):=qQ fun W L ao=>by
  have hA:vZ W base g F l:=(HT.out.xC J (fun _ _=>by simp)).below L;have:=P4 hA j (by rw[<-M];exact hn) ao;rw[<-I]at this;exact this
 have ac:Hid (∀W,Below d.1.size d W->W.cell? ⟨B,0,none⟩=some (mtp g)/\W.cell? ⟨g,1,none⟩=some (.slice A n c)/\W.cell? ⟨B+1,0,none⟩=some (.int .u64 (x.h:Nat))/\W.cell? ⟨B+1,1,none⟩=some (.int .i64 x.v)/\W.cell? ⟨B+1,2,none⟩=some (.int .i64 x.p)):=qQ fun W L=>by
  have q:∀ {p:Addr} {u:Value},d.cell? p=some u->W.cell? p=some u:=fun {p u} k=>(L.cell (p:=p) (World.block_lt_of_cell? d _ k)).trans k
  exact⟨q X,q H,q x0,q x1,q x2⟩
 have aa:=qQ (show l[K]? = some x↔x∈l by rw[I];exact Mi Z);have am:=qQ (show x∈l->vz l x=l from Mo Z);have V:Hid (jH [] w d):=qQ J;have HX:=qQ j;have ag:=qQ M;clear h Z aj J S T ad Y c0 c1 q j al M I;by_cases ak:K<n
 ·obtain⟨y,m⟩:∃y,l[K]? = some y:=⟨_,qD (by rw[<-ag.out];exact ak)⟩
  obtain⟨b,off,rfl,-,o,s,z,C⟩:=tP U.out m;have ai:=fun W=>Ym y x W
  have t1:(K:Int)<(n:Int):=by omega
  by_cases r:y=x
  ·have f:x∈l:=(by rw[r]at m;exact aa.out.1 m);rw[qB r]at ai;rw[qB f,am.out f];have ar:=qQ r;have aq:=qQ o;clear f r m;go_enter func150,ntmps150;go_wp2_with fail;refine X5 ae.out ?_;go_wp2_with fail;refine ab.out.mono ?_;rintro e N⟨rfl,a⟩;obtain⟨z0,z1,O,P,Q⟩:=ac.out N a;have u0:=(a.cell (p:=⟨b,off+K*3,none⟩) o).trans s;have u1:=(a.cell (p:=⟨b,off+K*3+1,none⟩) o).trans z;have u2:=(a.cell (p:=⟨b,off+K*3+2,none⟩) o).trans C;clear s z C d0 H X x0 x1 x2;obtain⟨xh,xv,xp⟩:=x;obtain⟨yh,yv,yp⟩:=y;simp only at u0 u1 u2 O P Q;go_wp2;go_quiet (fail);go_wp2;go_ret;exact cU.same (((HT.out.xC V.out (fun _ _=>by simp)).below a).drewN _) ((V.out.trans (jH.xA a) (fun x j=>by cases j)).drewN _)
  ·have f:x ∉ l:=fun k=>r (by have:=aa.out.2 k;rw[m]at this;exact qb this)
   rw[qA r]at ai;rw[qA f];have HM:=qQ f;clear f r m;go_enter func150,ntmps150;go_wp2_with fail;refine X5 ae.out ?_;go_wp2_with fail;refine ab.out.mono ?_;rintro e N⟨rfl,a⟩;obtain⟨z0,z1,O,P,Q⟩:=ac.out N a;have u0:=(a.cell (p:=⟨b,off+K*3,none⟩) o).trans s;have u1:=(a.cell (p:=⟨b,off+K*3+1,none⟩) o).trans z;have u2:=(a.cell (p:=⟨b,off+K*3+2,none⟩) o).trans C;clear s z C d0 H X x0 x1 x2;generalize vz l x=R at*;obtain⟨xh,xv,xp⟩:=x;obtain⟨yh,yv,yp⟩:=y;simp only at u0 u1 u2 O P Q;go_wp2;go_quiet (fail);go_wp2_with fail;refine(af.out _ (uK a _) HM.out).mono ?_;rintro e w4⟨F',rfl,g2,g3,g4⟩;go_wp2;go_ret;exact cU.since ⟨F',rfl,g2,g3,g4⟩ ((V.out.trans (jH.xA a) (fun x j=>by cases j)).drewN _)
 ·have f:x ∉ l:=fun k=>by
   have h2:=aa.out.2 k;rw[xX (by rw[<-ag.out];omega)]at h2;cases h2
  rw[qA f];have HM:=qQ f;have t1:¬(K:Int)<(n:Int):=by omega
  have t2:decide (K<n)=false:=qA ak;clear f HF U;generalize vz l x=R at*;go_enter func150,ntmps150;go_wp2_with fail;refine X5 ae.out ?_;go_wp2_with fail;refine ab.out.mono ?_;rintro e N⟨rfl,a⟩;obtain⟨z0,z1,O,P,Q⟩:=ac.out N a;obtain⟨xh,xv,xp⟩:=x;simp only at O P Q;go_wp2;go_quiet (fail);go_wp2_with fail;refine(af.out _ (uK a _) HM.out).mono ?_;rintro e w4⟨F',rfl,g2,g3,g4⟩;go_wp2;go_ret;exact cU.since ⟨F',rfl,g2,g3,g4⟩ ((V.out.trans (jH.xA a) (fun x j=>by cases j)).drewN _)
end
section
open Go.RowKit Go.Shelf
structure Has(w:World)(p:Value)(l:List jC):Prop where
 laid:∃v,kC w v l/\∀W,Below w.1.size w W->Calls prog 110 #[p] W fun e w'=>e=.returned v/\W=w'
 xH:kG l
 ok:∀x∈l,kz x
theorem vZ.has{w:World}{base g:Nat}{F:List Nat}{l:List jC}(h:vZ w base g F l):Has w (mtp g) l:=by
 obtain⟨A,c,c0,c1,-,f,-⟩:=h.shape;obtain⟨v,i,j,m,o,r,b,d⟩:=h;have q:∀ {p:Addr} {u:Value} {W:World},w.cell? p=some u->Below w.1.size w W->W.cell? p=some u:=fun {p u W} k a=>(a.cell (p:=p) (World.block_lt_of_cell? w _ k)).trans k
 exact⟨⟨_,jy.xE f,fun W a=>UP (q c0 a) (q c1 a)⟩,b,d⟩
theorem P9{w:World}{p:Value}{l:List jC}(h:Has w p l)(u:l.length<=500000)(k:Nat)(a b:Int):
  Calls prog 106 #[p,.int .u64 (k:Nat),a,b] w (dY w (vQ l k a b)):=by
 obtain⟨⟨v,m,d⟩,i,f⟩:=h;have o:=qQ (d w (qU _ _));have q:=qQ (UV v l k a b w m u f i);clear d m i f;generalize vQ l k a b=R at*;go_enter func106,ntmps106;go_wp2_with fail;refine X5 o.out ?_;go_wp2_with fail;refine q.out.mono ?_;rintro e w'⟨A,c,rfl,j,s⟩;have r:=qQ j;clear j;go_wp2;go_ret;exact⟨A,c,rfl,r.out,s⟩
theorem Pq{w:World}{p:Value}{l:List jC}(h:Has w p l)(i:l.length<=500000):
  Calls prog 65 #[p] w (dY w l):=by
 obtain⟨⟨v,k,f⟩,s,r⟩:=h;have m:=qQ (f w (qU _ _));have a:=qQ (UK v l w k i);obtain⟨n,b⟩:∃n,n=l.length:=⟨_,rfl⟩
 have d:=qQ b;unfold dY at a;rw[<-b]at a;clear f k s r i b;go_enter func65,ntmps65;go_wp2_with fail;refine X5 m.out ?_;go_wp2_with fail;refine a.out.mono ?_;rintro e w'⟨A,c,rfl,j,q⟩;have o:=qQ j;clear j;go_wp2;go_ret;exact⟨A,c,by rw[<-d.out];rfl,by rw[<-d.out];exact o.out,q⟩
def UR(w:World)(x:jC)(b:Bool)(e:Ending)(w':World):Prop:=e=.returned (.tuple #[kv x,b])/\Below w.1.size w w'
theorem Px{w:World}{p:Value}{l:List jC}(h:Has w p l)(z:l.length<=500000)(k:Nat)(n:Int):
  Calls prog 138 #[p,.int .u64 (k:Nat),n] w (UR w (vm l k n) (yZ l k n)):=by
 obtain⟨⟨v,s,m⟩,r,q⟩:=h;have c:vG (w.alloc (.cells #[.int .u64 ((0:Nat):Int),.int .i64 0,.int .i64 0] 117)) w.1.size 0 0 0:=jF.new _ _ _;have a:=(qU w.1.size w).alloc (qK _) (.cells #[.int .u64 ((0:Nat):Int),.int .i64 0,.int .i64 0] 117);obtain⟨b,f⟩:∃b,w.alloc (.cells #[.int .u64 ((0:Nat):Int),.int .i64 0,.int .i64 0] 117)=b:=⟨_,rfl⟩
 rw[f]at c a;have O:w.alloc (.cells #[.int .u64 0,.int .i64 0,.int .i64 0] 117)=b:=f;clear f;have i:=qQ (m b a);have j:=qQ (UN v l k n b (s.below a (qK _)) (by omega) q r);clear m s r q z;generalize vm l k n=x at*;generalize yZ l k n=o at*;obtain⟨I,K,J⟩:=x;go_enter func138,ntmps138;go_wp2_with fail;refine X5 i.out ?_;go_wp2_with fail;refine j.out.mono ?_;rintro e H⟨rfl,d⟩;have u:vG H w.1.size 0 0 0:=jF.below c d;have y:=bj a d;clear c a d j i;obtain⟨A,B,C,L,M,N⟩:=u.facts;go_wp2;exact bodyPost_ret (v:=.tuple #[kv ⟨I,K,J⟩,o]) (by simp[results,Tryz.results138,go_sem,A,B,C]) rfl ⟨rfl,lf y (qK _) _ _ _⟩
end
section
open Go.RowKit
section
variable {At:jR}(api:jS At)(nap:jw){w0 w:World}{gt gd:Nat}{D:jD}{E G:List Nat}{n:Int}{l:List jC}{t:Tw}
include api nap
omit nap in
theorem Pz{w1 w':World}{g:Nat}{D':jD}(k:∀b∈E,b<g)(m:w0.1.size<=g)(h:DS At w0 gd D' (g::E) w1)(o:jE E w w1)(d:Below w1.1.size w1 w')(a b c:Value)(v:Value):
  y9 At w0 gd v D' E w (.returned v) (((w'.setCell ⟨g,0,none⟩ a).setCell ⟨g,1,none⟩ b).setCell ⟨g,2,none⟩ c):=by
 have i:=h.below api d;have j:=i.zK api (Z7 (g:=g) w' a b c) (fun x f=>by rw[qH.1 f];exact⟨qC,m⟩);refine⟨rfl,j.less (fun b d=>qF _ d),(o.trans (jE.xA d (fun b d=>h.lt b (qF _ d)))).trans (jE.xP (Z7 (g:=g) w' a b c) fun x f=>⟨i.lt x (qF _ f),fun p=>?_⟩)⟩;have:=k x f;rw[qH.1 p]at this;exact Nat.lt_irrefl _ this
theorem Pj(h:DS At w0 gd D E w)(hp:yE w gt gd n l t G)(hG:∀b∈G,b∈E)(ok:WfP D)(hc:D.count<=1099511627776)(wn:(Lit.int .i64 n).wf=true)(hd:D.down=false)(P:yj D n l)(hk:bR t l=true)(hl:l.length<=40000)
  (x:Nat) (hx:x<18446744073709551616) (b:Int) (wb:(Lit.int .i64 b).wf=true):
  Calls prog 139 #[ptr gt,.int .u64 (x:Nat),.int .i64 b] w fun e w'=>∃k,k<=1/\(dq l t x=false->k=0)/\y9 At w0 gd (.tuple #[kv (vm l x (min b 1073741824)),.bool (yZ l x (min b 1073741824)),.int .i64 0]) { D with count:=D.count+k } E w e w':=by
 obtain⟨T,hm,af⟩:=P.props;have bb:=bounds_i64 wb;obtain⟨f,ad⟩:∃f,min b 1073741824=f:=⟨_,rfl⟩
 have i1:(if (1073741824:Int)<b then 1073741824 else b)=f:=by rw[<-ad];split<;>omega
 have i2:IntKind.i64.wrap (f+1)=f+1:=qy _ ⟨by omega,by omega⟩;rw[ad];have aa:=(qU w.1.size w).alloc (qK _) (.cells #[.int .u64 ((0:Nat):Int),.int .i64 0,.int .i64 0] 117);have H:vG (w.alloc (.cells #[.int .u64 ((0:Nat):Int),.int .i64 0,.int .i64 0] 117)) w.1.size 0 0 0:=jF.new _ _ _
 have z:DS At w0 gd D (w.1.size::E) (w.alloc (.cells #[.int .u64 ((0:Nat):Int),.int .i64 0,.int .i64 0] 117)):=h.more api aa (B:=[w.1.size]) (fun b m=>by
  rw[qH.1 m];exact⟨qK _,H.lt⟩)
 have C:=hp.below aa;have L:=jE.xA aa h.lt;have M:=h.lt;have Q:=h.kept.size;have ab:∀b∈G,b∈w.1.size::E:=fun b m=>qF _ (hG b m)
 obtain⟨g,an⟩:∃g,w.1.size=g:=⟨_,rfl⟩
 rw[an]at z H M Q ab;obtain⟨i,ag⟩:∃i,w.alloc (.cells #[.int .u64 ((0:Nat):Int),.int .i64 0,.int .i64 0] 117)=i:=⟨_,rfl⟩
 rw[ag]at z H C L;have ap:w.alloc (.cells #[.int .u64 0,.int .i64 0,.int .i64 0] 117)=i:=ag;clear ag aa h hp hG;have Y:=qQ (qG H (qG L (qG M (qG Q z))));have hR:=qQ (Zq api nap z C ok wn);rw[P.ready hd]at hR;have O:=qQ fun W (j:Below i.1.size i W)=>UE (C.below j) x hx
 have I:Hid (∀(k:Nat) (y:jC) (q:Bool) (o w':World) (a b c:Value),k<=1->(dq l t x=false->k=0)->vm l x f=y->yZ l x f=q->DS At w0 gd { D with count:=D.count+k } (g::E) o->jE (g::E) i o->Below o.1.size o w' ->
   ∃k,k<=1/\(dq l t x=false->k=0)/\y9 At w0 gd (.tuple #[kv (vm l x f),.bool (yZ l x f),.int .i64 0]) { D with count:=D.count+k } E w (.returned (.tuple #[kv y,.bool q,.int .i64 0])) (((w'.setCell ⟨g,0,none⟩ a).setCell ⟨g,1,none⟩ b).setCell ⟨g,2,none⟩ c)):=qQ fun k y q o w' a b c U V p r d1 q1 bb=>by
  rw[p,r];exact⟨k,U,V,Pz api M Q d1 (L.trans (q1.less (fun b m=>qF _ m))) bb a b c _⟩
 cases R:dq l t x with
 | false =>
   rw[R]at O I;have he:=(Yd hk R 0 f).2;have p:vm l x f=⟨0,0,0⟩:=(by unfold vm;rw[he];rfl);have r:yZ l x f=false:=(by unfold yZ;rw[he];rfl);have X:=qQ (fun w' (m:Below i.1.size i w')=>I.out 0 ⟨0,0,0⟩ false i w' (.int .u64 ((0:Nat):Int)) (.int .i64 0) (.int .i64 0) (by omega) (fun _=>rfl) p r Y.out.2.2.2.2 (jE.refl _ _) m);rw[p,r]at X ⊢;clear I;clear z C ok hc wn hd P hk hl hx wb T hm af bb ad i2 he R p r L M Q ab H;go_enter func139,ntmps139;go_wp2_with fail;refine hR.out.mono ?_;rintro e o⟨rfl,s⟩;go_wp2_with fail;refine KG (O.out _ s) fun w2 J=>?_;have u:=bj s J;obtain⟨k0,U,V,f0,f1,f2⟩:=vG.facts (show vG w2 g 0 0 0 from jF.below Y.out.1 u);have ak:=qQ u;clear s J u;go_wp2;exact bodyPost_ret (v:=.tuple #[kv ⟨0,0,0⟩,.bool false,.int .i64 0]) (by simp[results,Tryz.results139,go_sem,k0,U,V]) rfl (X.out _ ak.out)
 | true =>
   rw[R]at O I;obtain⟨lo,hi,N⟩:=Z6 T (by omega) ⟨x,f+1,0⟩;have a1:=N.jJ;have a2:=N.zj;rw[ZN hm,Yb]at a1 a2;have a4:=N.top;have hA:=qQ fun W (j:Below i.1.size i W)=>Zx (C.below j) (by omega) x (f+1) N
   have ae:=qQ fun W (j:Below i.1.size i W)=>Zv api nap (z.below api j) (C.below j) ab ok hc wn hd P (lo-1) hi (by omega) a4 hl
   have j:=OS (lo:=lo) (hi:=hi) T (by omega) a1 a2 a4;have ao:((l.drop (lo-1)).take (hi-(lo-1))).length=hi-(lo-1):=(by rw[qT,xQ];omega);have ac:=qQ fun(v:Value) W (hv:kC W v ((l.drop (lo-1)).take (hi-(lo-1))))=>UN v _ x f W hv (by omega) (fun y hy=>af y (Yg hy)) (ZM T _ _)
   have p:vm ((l.drop (lo-1)).take (hi-(lo-1))) x f=vm l x f:=(by unfold vm;rw[j]);have r:yZ ((l.drop (lo-1)).take (hi-(lo-1))) x f=yZ l x f:=(by unfold yZ;rw[j]);rw[p,r]at ac;obtain⟨d,am⟩:∃d:Int,(lo:Int)-1=d:=⟨_,rfl⟩
   obtain⟨K,aj⟩:∃K:Nat,lo-1=K:=⟨_,rfl⟩
   have j1:IntKind.i64.wrap ((lo:Int)-1)=d:=(by rw[qy _ ⟨by omega,by omega⟩];omega);have j2:(if (0:Int)>d then 0 else d)=(K:Int):=(by split<;>omega);have j3:(if d<(0:Int) then 0 else d)=(K:Int):=(by split<;>omega);rw[aj]at ae ac;have X:=qQ (fun o w' a b c=>I.out 1 (vm l x f) (yZ l x f) o w' a b c (by omega) (fun e=>by cases e) rfl rfl);generalize (l.drop K).take (hi-K)=S at*;clear I z C ok hc wn hd P hk hl hx wb T hm af bb ad R N a1 a2 a4 j ao p r am aj L M Q ab H;generalize vm l x f=y at*;generalize yZ l x f=q at*;obtain⟨yh,yv,yp⟩:=y;go_enter func139,ntmps139;go_wp2_with fail;refine hR.out.mono ?_;rintro e o⟨rfl,s⟩;go_wp2_with fail;refine KG (O.out _ s) fun w2 ah=>?_;have J:=bj s ah;clear ah s hR O;go_wp2_with fail;refine KG (hA.out _ J) fun w3 ai=>?_;have u:=bj J ai;clear ai J hA;go_wp2_with fail;refine(ae.out _ u).mono ?_;rintro e w4⟨A,c,rfl,r1,r2,r3⟩;have K4:=(jE.xA u Y.out.2.2.2.2.lt).trans r3;have D4:=r2.less (E':=g::E) (fun b m=>qJ _ m);have H4:=qQ (qG D4 K4);have HL:=qQ (ac.out _ _ r1.xE);clear r1 r2 r3 u ae ac K4 D4;go_wp2_with fail;refine KG HL.out fun w5 Z=>?_;have B6:=Z.alloc Z.size (.cells #[.int .u64 (yh:Nat),yv,yp] 117);have E5:vG w5 g 0 0 0:=jF.below (H4.out.2.xW Y.out.1 qC) Z;obtain⟨k0,U,V,f0,f1,f2⟩:=vG.facts (show vG _ g 0 0 0 from jF.alloc E5 (.cells #[.int .u64 (yh:Nat),yv,yp] 117));have al:=qQ B6;have HN:=qQ (show g≠w5.1.size from Nat.ne_of_lt E5.lt);clear Z B6 E5;go_wp2;exact bodyPost_ret (v:=.tuple #[kv ⟨yh,yv,yp⟩,.bool q,.int .i64 0]) (by simp[results,Tryz.results139,go_sem,k0,U,V]) rfl (X.out _ _ _ _ _ H4.out.1 H4.out.2 al.out)
end
end
section
open Go.ChangeShapes Go.WideShapes Go.ChangeAt Go.RowKit Go.Deep
structure kP where
 v:Value
 l:List jC
abbrev els(L:List kP):List (List jC):=L.map kP.l
abbrev dj(L:List kP):List Value:=L.map kP.v
def dy(w:World)(L:List kP):Prop:=∀x∈L,kC w x.v x.l
def du(w:World)(v:Value)(L:List kP):Prop :=
 (L=[]/\∃a c,v=.slice a 0 c)∨∃b off d,v=.slice (some ⟨b,off,none⟩) L.length d/\L.length<=d/\d<=maxLen/\b<w.1.size/\∀i x,L[i]? = some x->w.cell? ⟨b,off+i,none⟩=some x.v
def tj(w:World)(v:Value)(L:List kP):Prop:=du w v L/\dy w L
theorem du.below{w w':World}{v:Value}{L:List kP}{B:Nat}(h:du w v L)(a:Below B w w')(f:w.1.size<=B):du w' v L:=by
 rcases h with h|⟨b,off,d,o,k,m,c,j⟩
 ·exact qX h
 ·exact qY ⟨b,off,d,o,k,m,qS c a.size,fun i x q=>(a.cell (p:=⟨b,off+i,none⟩) (qS c f)).trans (j i x q)⟩
theorem du.form{w:World}{v:Value}{L:List kP}(h:du w v L):∃A off d,v=.slice A L.length d/\L.length<=maxLen /\
  ∀i x,L[i]? = some x->∃b,A=some ⟨b,off,none⟩/\b<w.1.size/\w.cell? ⟨b,off+i,none⟩=some x.v:=by
 rcases h with⟨rfl,a,c,rfl⟩|⟨b,off,d,rfl,m,o,f,j⟩
 ·exact⟨a,0,c,rfl,qI _,fun i x h=>by simp at h⟩
 ·exact⟨some ⟨b,off,none⟩,off,d,rfl,by omega,fun i x k=>⟨b,rfl,f,j i x k⟩⟩
theorem dy.one{w:World}{L:List kP}(h:dy w L):∀u∈dj L,u.oneCell'=true:=by
 intro u a;obtain⟨x,b,rfl⟩:=qP.1 a;obtain⟨A,off,c,e,-,-⟩:=(h x b).form;rw[e];rfl
abbrev kD(w:World)(base:Nat)(v:Value)(L:List kP):Prop:=w.ownsRow base 112 1 v L.length (dj L)
theorem kD.nil(w:World)(base:Nat):kD w base (.slice none 0 0) []:=World.ownsRow_nil _ _ _ _
theorem kD.at_{w:World}{base:Nat}{v:Value}{L:List kP}(h:kD w base v L):du w v L:=by
 have b:=h;rcases h.2 with⟨a,f⟩|⟨g,d,o,a,p,j,m,k,r,s⟩
 ·exact qX ⟨xK.1 f,none,0,a⟩
 ·refine qY ⟨g,0,d,a,m,k,(ql.1 j).1,fun i x c=>?_⟩;have q:i<L.length:=(qO.1 c).1;rw[a]at b;rw[qa];refine(b.cellAt i (by omega)).trans ?_;show(L.map kP.v)[i]? = _;rw[qu,c];rfl
theorem kD.xE{w:World}{base:Nat}{v:Value}{L:List kP}(h:kD w base v L)(a:dy w L):tj w v L:=⟨h.at_,a⟩
theorem kD.below{w w':World}{base B:Nat}{v:Value}{L:List kP}(h:kD w base v L)(i:Below B w w')(f:w.1.size<=B):kD w' base v L:=by
 refine⟨h.1, ?_⟩;rcases h.2 with d|⟨g,b,c,m,j,a,r⟩
 ·exact qX d
 ·obtain⟨k,_⟩:=ql.1 a;exact qY ⟨g,b,c,m,j,(i.block g (qS k f)).trans a,r⟩
theorem kD.some_{w:World}{base n c:Nat}{A:Option Addr}{L:List kP}(h:kD w base (.slice A n c) L)(k:0<L.length):∃g,A=some ⟨g,0,none⟩/\base<=g/\g<w.1.size/\n=L.length:=by
 rcases h.2 with⟨a,j⟩|⟨g,f,i,a,b,d,_⟩
 ·omega
 ·obtain⟨rfl,rfl,-⟩:=Value.slice.inj a;exact⟨g,rfl,b,(ql.1 d).1,rfl⟩
theorem kD.cell{w:World}{base g n c i:Nat}{L:List kP}{x:kP}(h:kD w base (.slice (some ⟨g,0,none⟩) n c) L)(b:n=L.length)(a:L[i]? = some x):w.cell? ⟨g,i,none⟩=some x.v/\w.frozen? ⟨g,i,none⟩=false:=by
 subst b;have d:i<L.length:=(qO.1 a).1;refine⟨(h.cellAt i (by omega)).trans ?_,h.frozenAt i⟩;show(L.map kP.v)[i]? = _;rw[qu,a];rfl
theorem kD.put{w:World}{base g n c i:Nat}{L:List kP}(h:kD w base (.slice (some ⟨g,0,none⟩) n c) L)(b:n=L.length)(x:kP):kD (w.setCell ⟨g,i,none⟩ x.v) base (.slice (some ⟨g,0,none⟩) n c) (L.set i x):=by
 subst b;have a:=(h.stored i x.v).1;unfold kD dj;rw[List.length_set,List.map_set];exact a
theorem Pk: (prog.info? 112).map (fun i=>(i.zero,i.size,i.bytes))=some (some (.slice none 0 0),1,24):=by kernel_rfl
theorem du.src{w:World}{v:Value}{L:List kP}(h:du w v L):gI w 1 v L.length (dj L):=by
 refine⟨by unfold dj;rw[qz,Nat.mul_one], ?_⟩;rcases h with⟨rfl,a,c,rfl⟩|⟨b,off,f,rfl,o,p,q,k⟩
 ·cases a with
  | none=>exact qX ⟨c,rfl,rfl⟩
  | some a=>exact qY ⟨a,c,rfl,fun j u d=>by cases d⟩
 ·refine qY ⟨⟨b,off,none⟩,f,rfl,fun j u d=>?_⟩;unfold dj at d;rw[qu]at d;obtain⟨x,m,rfl⟩:=xG.1 d;have i:(⟨b,off,none⟩:Addr).add j=⟨b,off+j,none⟩:=by unfold Addr.add;split<;>simp_all
  rw[i];exact k j x m
theorem Pv(w:World)(x:kP):du (w.alloc (.cells #[x.v] 112)) (.slice (some ⟨w.1.size,0,none⟩) 1 1) [x]:=by
 refine qY ⟨w.1.size,0,1,rfl,qK _,by unfold maxLen;omega,by simp,fun i y a=>?_⟩
 match i,a with
 | 0,a =>
   obtain rfl:x=y:=(by simpa using a);simp
theorem US{w:World}{base:Nat}{a b:Value}{L M:List kP}(p:kD w base a L)(q:du w b M)(k:∀u∈dj M,u.oneCell'=true)(z:L.length+M.length<=1000000)(m:base<=w.1.size)(ty:TypeId):
  ∃A c w',(Builtin.append_ #[159,159] ty #[a,b]).run prog w=.ok (.slice A (L.length+M.length) c) w'/\kD w' base (.slice A (L.length+M.length) c) (L++M)/\w.grownBy w' a.ownBlock/\((Value.slice A (L.length+M.length) c).ownBlock=a.ownBlock∨(Value.slice A (L.length+M.length) c).ownBlock=some w.1.size):=by
 obtain⟨y,o,r,s,v⟩:=info_parts Pk;obtain⟨B,w',f,d,i,j⟩:=cr (P:=prog) w base 159 112 y _ 1 24 ty Tryz.underlying159 o r s v rfl (by decide) a L.length (dj L) p b M.length (dj M) q.src k (by unfold maxLen;omega) (by omega) m;obtain⟨A,c,rfl,-,-,-⟩:=v8 d;refine⟨A,c,w',f, ?_,i,j⟩;unfold kD dj;rw[List.map_append,qN];exact d
theorem Zg: (112:TypeId)≠117:=by decide
theorem kD.grown{w w':World}{base base':Nat}{u v:Value}{L:List kP}{l:List jC}(h:kD w base v L)(i:jy w base' u l)(c:w.grownBy w' u.ownBlock):kD w' base v L :=
 bw h (F:=u.ownBlock.toList) (jH.grown (jH.refl _ w) c (fun k d=>qX (by rw[d];simp))) (fun b a f=>fT i h Zg.symm b a (by simpa using f))
theorem jy.zy{w w':World}{base base':Nat}{u v:Value}{L:List kP}{l:List jC}(h:jy w base v l)(i:kD w base' u L)(c:w.grownBy w' u.ownBlock):jy w' base v l :=
 bw h (F:=u.ownBlock.toList) (jH.grown (jH.refl _ w) c (fun k d=>qX (by rw[d];simp))) (fun b a f=>fT i h Zg b a (by simpa using f))
theorem jy.x9{w:World}{base base' g n c i:Nat}{v x:Value}{L:List kP}{l:List jC}(h:jy w base v l)(b:kD w base' (.slice (some ⟨g,0,none⟩) n c) L):jy (w.setCell ⟨g,i,none⟩ x) base v l :=
 vu h (fun a=>fT b h Zg g a rfl) x
theorem kD.alloc{w:World}{base:Nat}{v:Value}{L:List kP}(h:kD w base v L)(o:Obj):kD (w.alloc o) base v L:=kD.below h ((qU w.1.size w).alloc (qK _) o) (qK _)
def Zb(w:World)(L:List kP)(e:Ending)(w':World):Prop:=∃A c,e=.returned (.slice A L.length c)/\kD w' w.1.size (.slice A L.length c) L/\Below w.1.size w w'
theorem UT(A:Option Addr)(n c:Nat)(w:World):(binOp .eql 159 (.slice A n c) (.slice none 0 0)).run prog w=.ok (.bool A.isNone) w:=by
 have a:=run_equal_slice_nil (P:=prog) w 159 112 A n c Tryz.underlying159;simp only[binOp];simp[a]
theorem Py(v:Value)(L:List kP)(w:World)(h:tj w v L)(s:L.length<=500000):Calls prog 170 #[v] w (Zb w L):=by
 obtain⟨A,off,o,rfl,-,-⟩:=h.1.form;cases A with
 | none =>
   have M:L=[]:=by
    rcases h.1 with⟨e,_⟩|⟨b,Q,P,e,_⟩
    ·exact e
    ·cases e
   subst M;have N:=fun W=>UT none 0 o W
   clear h s;go_enter func170,ntmps170;go_wp2;go_ret;exact⟨none,0,rfl,kD.nil _ _,qU _ _⟩
 | some a =>
   have f:=(qU w.1.size w).alloc (qK _) (.cells #[] 112);have u:kD (w.alloc (.cells #[] 112)) w.1.size (.slice (some ⟨w.1.size,0,none⟩) 0 0) []:=World.ownsRow_made w #[] 0 (qK _) (qI _) rfl;have q:=h.1.below f (qK _);obtain⟨z,I,w',c,d,p,J⟩:=US u q h.2.one (by simp;omega) (by simp) 159;have r:=f.trans (rQ p (B:=w.1.size) (by simp) (fun k K=>by simp[Value.ownBlock]at K;omega));have H:=qQ r;rw[List.nil_append]at d;have y:([]:List kP).length+L.length=L.length:=(by simp);rw[y]at c d;have j:=qQ d;clear h s f u q d p J r y;unfold Zb;obtain⟨m,i⟩:∃m,m=L.length:=⟨_,rfl⟩
   have O:=qQ i;rw[<-i]at c j ⊢;clear i;have C:=qQ c;have N:=fun W=>UT (some a) m o W
   clear c;go_enter func170,ntmps170;go_wp2_with (first|(at_builtin;refine yK rfl _ _ rfl rfl rfl C.out ?_)|fail);go_ret;exact⟨z,I,rfl,j.out,H.out⟩
end
section
open Go.RowKit Go.Shelf
theorem Pu{l:List jC}{n:Nat}(h:l.length=n+1):l.getLast? = l[n]? := by rw[List.getLast?_eq_getElem?,h,Nat.add_sub_cancel]
theorem Pg(v:Value)(l:List jC)(x:jC)(w:World)(h:kC w v l)(J:l.length<=1000000):
  Calls prog 171 #[v,kv x] w (X3 (.bool (decide (l.getLast? = some x))) w):=by
 obtain⟨A,off,P,rfl,-,r⟩:=h.form;obtain⟨a,d,c⟩:=x;have f:=(qU w.1.size w).alloc (qK _) (.cells #[.int .u64 (a:Nat),d,c] 117);have K:(w.alloc (.cells #[.int .u64 (a:Nat),d,c] 117)).cell? ⟨w.1.size,0,none⟩=some (.int .u64 (a:Nat)):=World.cell?_alloc_at _ _ _ _ rfl;have L:(w.alloc (.cells #[.int .u64 (a:Nat),d,c] 117)).cell? ⟨w.1.size,1,none⟩=some (.int .i64 d):=World.cell?_alloc_at _ _ _ _ rfl;have M:(w.alloc (.cells #[.int .u64 (a:Nat),d,c] 117)).cell? ⟨w.1.size,2,none⟩=some (.int .i64 c):=World.cell?_alloc_at _ _ _ _ rfl;by_cases o:l=[]
 ·subst o;have e:decide (([]:List jC).getLast? = some ⟨a,d,c⟩)=false:=qA (by simp);rw[e];clear h r J e;simp only[List.length_nil];go_enter func171,ntmps171;obtain⟨i,z⟩:∃i,w.alloc (.cells #[.int .u64 (a:Nat),d,c] 117)=i:=⟨_,rfl⟩
  rw[z]at f K L M;go_wp2;go_quiet (fail);go_wp2;go_ret;exact⟨rfl,uK f _⟩
 ·obtain⟨m,u⟩:∃m,l.length=m+1:=⟨l.length-1,by have:=List.length_pos_iff.2 o;omega⟩
  obtain⟨y,B⟩:∃y,l[m]? = some y:=⟨_,qD (by omega)⟩
  have e:decide (l.getLast? = some ⟨a,d,c⟩)=decide (y=⟨a,d,c⟩):=by rw[Pu u,B];exact decide_eq_decide.2 ⟨qb,congrArg some⟩
  rw[e];obtain⟨b,rfl,j,C,H,I⟩:=r m y B;have c0:=(f.cell (p:=⟨b,off+m*3,none⟩) j).trans C;have c1:=(f.cell (p:=⟨b,off+m*3+1,none⟩) j).trans H;have c2:=(f.cell (p:=⟨b,off+m*3+2,none⟩) j).trans I;have N:=fun W=>Ym y ⟨a,d,c⟩ W
  obtain⟨k,s⟩:∃k,k=l.length:=⟨_,rfl⟩
  have O:k=m+1:=s.trans u;rw[<-s];have Q:(k:Int)-1=(m:Int):=by omega
  have R:decide ((0:Int)<(k:Int))=true:=qB (by omega);have U:decide (0<k)=true:=qB (by omega);have V:(0:Int)<(k:Int):=by omega
  have X:0<k:=by omega
  have S:IntKind.i64.wrap ((m:Nat):Int)=(m:Nat):=qy _ ⟨by omega,by omega⟩;have T:(m:Int)<(k:Int):=by omega
  clear h r J e u B j C H I O s o;generalize decide (y=(⟨a,d,c⟩:jC))=q at*;obtain⟨Y,yv,Z⟩:=y;simp only at c0 c1 c2 N;go_enter func171,ntmps171;obtain⟨i,z⟩:∃i,w.alloc (.cells #[.int .u64 (a:Nat),d,c] 117)=i:=⟨_,rfl⟩
  rw[z]at f K L M c0 c1 c2;go_wp2;go_quiet (fail);go_wp2;go_ret;exact⟨rfl,uK f _⟩
end
section
open Go.RowKit
theorem Pb{m:Nat}(b:m<=65535):∀wx:World,(convert 154 9 (.slice (some ⟨wx.1.size,0,none⟩) 2 2)).run prog (wx.alloc (.cells #[.int .u8 ((m:Int)/256),.int .u8 ((m:Int)%256)] 5))=.ok (.string (bs (be 2 m))) (wx.alloc (.cells #[.int .u8 ((m:Int)/256),.int .u8 ((m:Int)%256)] 5)):=fun wx=>by
 refine run_convert_bytes_back (P:=prog) _ 154 9 5 ⟨wx.1.size,0,none⟩ 2 (be 2 m) Tryz.underlying154 Tryz.underlying5 Tryz.underlying9 (fun j a=>?_);have e:(⟨wx.1.size,0,none⟩:Addr).add j=⟨wx.1.size,j,none⟩:=by simp[Addr.add];omega
 rw[e,World.cell?_alloc_at _ _ _ _ rfl];rw[jn]at a
 match j,a with
 | 0,_=>simp[be];omega
 | 1,_=>simp[be]
theorem U0(s:Tw)(w:World)(h:s.size<=65535):
  Calls prog 101 #[s] w (X3 (.string (bs (be 2 s.size)++s)) w):=by
 have a:=YR s h (be 2 s.size) (jn _ _);go_enter func101,ntmps101;have b:=Pb (m:=s.size) (by omega);go_wp2;go_ret;exact⟨rfl,(qU _ _).alloc (qK _) _⟩
end
end Go.Proofs.YthejglbnkmimjaaGreat

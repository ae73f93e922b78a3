import Derived.Test.YthejglbnkmimjaaGreatQp11
import Derived.Lib.OwnBridge
import Derived.Lib.AppendZeros
import Derived.Test.YthejglbnkmimjaaGreatQp04
set_option linter.unusedVariables false
set_option maxRecDepth 100000
set_option maxHeartbeats 9000000
namespace Go.Proofs.YthejglbnkmimjaaGreat
open Proofs.Tryz
section
open Go.RowKit Go.Shelf
def Gt(l:List Int)(x:Int)(w:World)(e:Ending)(w':World):Prop:=(∃k:Int,e=.returned (.int .i64 k)/\decide (0<=k)=decide (x∈l))/\w'=w
theorem Ti(v:Value)(l:List Int)(x:Int)(w:World)(h:kF w v l)(u:l.length<=1000000):Calls prog 184 #[v,x] w (Gt l x w):=by
 obtain⟨A,off,B,rfl,-,p⟩:=h.form;have s:=qQ p;obtain⟨n,f⟩:∃n,n=l.length:=⟨_,rfl⟩
 have j:=qQ f;rw[<-f]at u ⊢;clear h p f;go_enter func184,ntmps184;go_wp2;go_loopw [8] (fun i wr=>∃k:Nat,k<=n/\i=.int .i64 k/\x ∉ l.take k/\wr=w) (fun i _=>n-(intOf i).toNat)
 case atStart=>exact⟨0,qI _,rfl,by simp,rfl⟩
 case round =>
  obtain⟨k,F,rfl,r,rfl⟩:=hrel;have m:=qQ r;clear r;by_cases q:k<n
  ·have z:(k:Int)<(n:Int):=(by omega);obtain⟨y,g⟩:∃y,l[k]? = some y:=⟨_,qD (by rw[<-j.out];exact q)⟩
   obtain⟨b,rfl,C,c1⟩:=s.out k y g;have o:=qQ g;clear g;by_cases c:x=y
   ·subst c;have e:(x==x)=true:=(by simp);have d:=qQ (qM o.out);go_wp2;go_ret;exact⟨⟨_,rfl,by rw[qB d.out];exact qB (by omega)⟩,rfl⟩
   ·have e:(x==y)=false:=qg.2 c;have t:=qQ c;clear c;go_wp2;refine⟨⟨k+1,by omega,by go_num, ?_,trivial⟩,by simp[intOf];omega⟩;rw[qw,o.out];intro a;rcases qE.1 a with a|a
    ·exact m.out a
    ·exact t.out (by simpa using a)
  ·obtain rfl:k=n:=(by omega);have z:¬(k:Int)<(k:Int):=(by omega);have d:=qQ (show x ∉ l by have h:=m.out;rwa [j.out,List.take_length]at h);clear q;go_wp2;go_ret;exact⟨⟨-1,rfl,by rw[qA d.out];rfl⟩,rfl⟩
theorem QI(v:Value)(l:List Int)(x:Int)(w:World)(h:kF w v l)(b:l.length<=1000000):Calls prog 120 #[v,x] w fun e w'=>e=.returned (.bool (decide (x∈l)))/\w'=w:=by
 have H:=qQ (Ti v l x w h b);clear h b;unfold Gt at H;generalize decide (x∈l)=q at*;go_enter func120,ntmps120;go_wp2_with fail;refine H.out.mono ?_;rintro e w'⟨⟨k,rfl,a⟩,rfl⟩;have c:=qQ a;clear a;go_wp2;go_ret;exact⟨by rw[<-c.out];rfl,rfl⟩
theorem Ga(n:Nat):(Builtin.zeroCells (Value.int .i64 0).cells n).size=n:=by
 unfold Builtin.zeroCells;rw[Array.size_map,Array.size_range];exact Nat.mul_one n
theorem To(n:Nat)(w:World)(y:n<=1000000):Calls prog 56 #[.slice none 0 0,n] w fun e w'=>∃A c,e=.returned (.slice A 0 c)/\jd w' w.1.size (.slice A 0 c) []/\Below w.1.size w w':=by
 by_cases b:n=0
 ·subst b;go_enter func56,ntmps56;go_wp2;go_ret;exact⟨none,0,rfl,jd.nil _ _,qU _ _⟩
 ·obtain⟨u,i,l,m,o⟩:=info_parts sF;have a:=Lib.run_append_nil_zeros (P:=prog) w 37 3 37 3 u _ .i64 .i64 Tryz.underlying37 Tryz.underlying3 i l n (by omega) (by rw[m];decide) (by omega) (by rw[o];omega);have s:=grownCap_ge w n 0 3;have f:=grownCap_le_maxLen w n 0 3 (by unfold maxLen;omega);generalize grownCap w n 0 3=c at*;generalize g:Builtin.zeroCells (Value.int .i64 0).cells n++Builtin.zeroCells (Value.int .i64 0).cells (c-n)=cs at*;have k:cs.size=c*1:=by rw[<-g,Array.size_append,Ga,Ga];omega
  have d:Below w.1.size w (w.drew.alloc (.cells cs 3)):=(qU w.1.size w).drew.alloc (qK _) _
  have j:jd (w.drew.alloc (.cells cs 3)) w.1.size (.slice (some ⟨w.1.size,0,none⟩) 0 c) [] :=
   ⟨rfl,qY ⟨w.1.size,c,cs,rfl,qK _,jF.new w.drew 3 cs,qI _,f,k,rfl⟩⟩
  have z:∀W,(Instr.slice 37 (.slice (some ⟨w.1.size,0,none⟩) n c) none (some (.int .i64 0)) none).run prog W=.ok (.slice (some ⟨w.1.size,0,none⟩) 0 c) W:=fun W=>by
   have t:(sizeOf (prog.elem 37)).run prog W=.ok 1 W:=(by simp[go_sem]);rw[run_slice_h W _ _ _ c Tryz.underlying37 .i64 _ (by omega) (by omega),t];show Result.ok (sliced _ _ _ _ _) W=_;unfold sliced;rw[qZ (by omega)];simp[Addr.add]
  have q:=qQ a;have r:=qQ j;have p:=qQ d;have B:(0:Int)<(n:Int):=by omega
  have C:decide ((n:Int)<0)=false:=qA (by omega);clear a j d k g s f i l m o b;go_enter func56,ntmps56;go_wp2_with (first|(at_builtin;refine yK rfl _ _ rfl rfl rfl q.out ?_)|fail);go_ret;exact⟨_,_,rfl,r.out,p.out⟩
theorem QL{R:LvL}{k:Nat}{x:List Int}(h:R[k]? = some x):(R.take (k+1)).flatten=(R.take k).flatten++x:=by
 rw[qw,h,List.flatten_append];simp
theorem Ge(R:LvL)(k:Nat):(R.take k).flatten.length<=R.flatten.length:=by
 conv=>rhs;rw[<-qe k R,List.flatten_append,qN]
 omega
theorem oS{R:LvL}{k:Nat}{x:List Int}(h:R[k]? = some x):x.length<=R.flatten.length:=by
 have a:=Ge R (k+1);rw[QL h,qN]at a;omega
theorem jd.slice{w:World}{base:Nat}{v:Value}{l:List Int}(h:jd w base v l):∃A c,v=.slice A l.length c:=by
 obtain⟨A,c,rfl,-⟩:=v8 h;exact⟨A,c,rfl⟩
theorem qQQ{w wr:World}{u v:Value}{l m:List Int}(b:jd wr w.1.size u l)(i:kF wr v m)(n:l.length+m.length<=1000000)(a:Below w.1.size w wr)(ty:TypeId):
  ∃A c w2,(Builtin.append_ #[37,37] ty #[u,v]).run prog wr=.ok (.slice A (l.length+m.length) c) w2/\jd w2 w.1.size (.slice A (l.length+m.length) c) (l++m)/\Below w.1.size w w2:=by
 obtain⟨A,c,w2,d,f,g,-⟩:=Qa b i n a.size ty;exact⟨A,c,w2,d,f,a.trans (sI g a.size (fun k j=>(jd.block b k j).1))⟩
theorem qQX(v:Value)(R:LvL)(w:World)(h:kh w v R)(hl:R.flatten.length<=100000)(hL:R.length<=100000):Calls prog 29 #[v] w (bQ w R.flatten):=by
 have B:=qQ (To R.flatten.length w (by omega));have z:=qQ (Ge R);have HH:=qQ h;obtain⟨A,off,ad,rfl,-,M⟩:=h.form;have y:=qQ M;obtain⟨n,t⟩:∃n,n=R.length:=⟨_,rfl⟩
 have q:=qQ t;rw[<-t]at hL ⊢;obtain⟨N,r⟩:∃N,N=R.flatten.length:=⟨_,rfl⟩
 have c:=qQ r;rw[<-r]at hl B;clear h M t r;unfold bQ;rw[<-c.out];go_enter func29,ntmps29;go_wp2;go_loopw [3,11] (fun s i wr=>∃k:Nat,k<=n/\i=.int .i64 k/\s=.int .i64 (((R.take k).flatten.length:Nat):Int)/\wr=w) (fun _ i _=>n-(intOf i).toNat)
 case atStart=>exact⟨0,qI _,rfl,rfl,rfl⟩
 case round =>
  obtain⟨k,hk,rfl,rfl,rfl⟩:=hrel;by_cases O:k<n
  ·have l1:(k:Int)<(n:Int):=(by omega);obtain⟨x,a⟩:∃x,R[k]? = some x:=⟨_,qD (by rw[<-q.out];exact O)⟩
   obtain⟨b,u,rfl,J,c1,d⟩:=y.out k x a;obtain⟨Q,o2,c2,rfl,-,-⟩:=d.form;have Z:=qQ (show(((R.take (k+1)).flatten.length:Nat):Int)=(((R.take k).flatten.length:Nat):Int)+((x.length:Nat):Int) by rw[QL a,qN];omega);have ab:=z.out k;have ac:=oS a;rw[<-c.out]at ab ac;clear d a;generalize (R.take k).flatten.length=s at*;generalize x.length=m at*;have q1:decide (((s:Int)+(m:Int))<0)=false:=qA (by omega);have q2:IntKind.i64.wrap ((s:Int)+(m:Int))=(s:Int)+(m:Int):=qy _ ⟨by omega,by omega⟩;go_wp2;refine⟨⟨k+1,by omega,by go_num,by rw[Z.out],trivial⟩,by simp[intOf];omega⟩
  ·obtain rfl:k=n:=(by omega);have l1:¬(k:Int)<(k:Int):=(by omega);have I:(R.take k).flatten.length=N:=(by rw[q.out,List.take_length,<-c.out]);rw[I];clear I O;obtain⟨w0,rfl⟩:∃w0,w0=wr:=⟨_,rfl⟩
   go_wp2_with fail;refine B.out.mono ?_;rintro e w1⟨A1,c1,rfl,f,K⟩;have Y:=qQ f;have U:=qQ K;clear f K;go_wp2;go_loopg [6,27] k (fun g u i wr=>∃(j:Nat),j+g=k/\i=.int .i64 j/\jd wr w0.1.size u (R.take j).flatten/\Below w0.1.size w0 wr)
   case atStart=>exact⟨0,by omega,rfl,Y.out,U.out⟩
   case round =>
    obtain⟨j,af,rfl,f,L⟩:=hrel;obtain⟨S,c3,rfl⟩:=f.slice;have l:=qQ f;have o:=qQ L;clear f L;cases gk with
    | zero =>
      obtain rfl:j=k:=(by omega);have s1:¬(j:Int)<(j:Int):=(by omega);have ej:(R.take j)=R:=(by rw[q.out];exact List.take_length);rw[ej]at l ⊢;rw[<-c.out]at l ⊢;go_wp2;go_ret;exact⟨S,c3,rfl,by have h:=l.out;rw[c.out]at h;rw[c.out];exact h,o.out⟩
    | succ gi =>
      have aa:j<k:=(by omega);have s1:(j:Int)<(k:Int):=(by omega);obtain⟨x,a⟩:∃x,R[j]? = some x:=⟨_,qD (by rw[<-q.out];exact aa)⟩
      obtain⟨b,u,rfl,J,C,d⟩:=y.out j x a;have ae:=(o.out.cell (p:=⟨b,off+j,none⟩) J).trans C;have P:=z.out (j+1);rw[QL a,qN,<-c.out]at P;obtain⟨T,c4,w2,F,G,H⟩:=qQQ l.out (d.below o.out (qK _)) (by omega) o.out 37;obtain⟨Q,o2,c2,rfl,-,-⟩:=d.form;have W:=qQ (show jd w2 w0.1.size (.slice T ((R.take j).flatten.length+x.length) c4) (R.take (j+1)).flatten by rw[QL a];exact G);have X:=qQ H;have V:=qQ F;clear F G H C d a P l;generalize (R.take j).flatten.length=s at*;generalize x.length=m at*;go_wp2_with (first|(at_builtin;refine yK rfl _ _ rfl rfl rfl V.out ?_)|fail);go_roundg gi
      case measure=>omega
      case rel=>exact⟨j+1,by omega,by go_num,W.out,X.out⟩
theorem qQZ(w:World)(a:Array Obj):Below w.1.size w (Sort.grow w a):=⟨rfl,rfl,rfl,by simp,fun k b=>Sort.heap_grow_old w a b⟩
theorem qQJ(w:World)(base n c:Nat)(A:Option Addr)(l:List Int)(h:jd w base (.slice A n c) l)(m:n=l.length)(B:n<=1000000):
  Calls prog 183 #[.slice A n c] w fun e w'=>e=.returned (.tuple #[])/\jd w' base (.slice A n c) (yS l)/\Below base w w':=by
 subst m;by_cases o:(Value.slice A l.length c)=.slice none 0 0
 ·obtain⟨rfl,p,rfl⟩:=Value.slice.inj o;have u:l=[]:=xK.1 p;subst u;refine(AnyM.slices_Sort_int_none Tryz.isort none 0 w).mono ?_;rintro e w'⟨rfl,rfl⟩;exact⟨rfl,by rw[show yS []=[] by(unfold yS;simp)];exact jd.nil _ _,qU _ _⟩
 ·obtain⟨g,z,t,i,j,m,C,-,s⟩:=Lib.holds_of_ownsRow (enc:=Value.int .i64) h o;obtain⟨rfl,-,rfl⟩:=Value.slice.inj t;refine(AnyM.slices_Sort_int Tryz.isort g 0 c l w s j (by omega)).mono ?_;rintro e w'⟨rfl,q,y,rfl⟩;have a:=Lib.ownsRow_putRow (enc:=Value.int .i64) (q:=q) (k:=l.length) (ys:=yS l) h (pW l) (qK _);rw[qp (by rw[pW];exact qK _)]at a;have f:=Lib.below_putRow (enc:=Value.int .i64) (q:=q) (d:=(yS l).toArray) (qU base w) i;have b:=qQZ (Sort.putRow (Value.int .i64) (Sort.ahead w q) g 0 (yS l).toArray) y;refine⟨rfl, ?_, ?_⟩
  ·have r:jd (Sort.putRow (Value.int .i64) (Sort.ahead w q) g 0 (yS l).toArray) base (.slice (some ⟨g,0,none⟩) l.length c) (yS l):=by
    unfold jd;rw[pW];exact a
   exact jd.below r b (qK _)
  ·exact f.trans (b.mono (qR (qR i (Nat.le_of_lt j)) f.size))
theorem mY(v:Value)(R:LvL)(w:World)(h:kh w v R)(f:R.flatten.length<=100000)(d:R.length<=100000):Calls prog 10 #[v] w (bQ w R.flatten):=by
 have H:=qQ (qQX v R w h f d);clear h f d;unfold bQ at H ⊢;generalize R.flatten=l at*;go_enter func10,ntmps10;go_wp2_with fail;refine H.out.mono ?_;rintro e w'⟨A,c,rfl,a,b⟩;have g:=qQ a;have i:=qQ b;clear a b;go_wp2;go_ret;exact⟨A,c,rfl,g.out,i.out⟩
theorem Gi(v:Value)(R:LvL)(n:Int)(w:World)(h:kh w v R)(k:R.flatten.length<=100000)(g:R.length<=100000):
  Calls prog 116 #[v,n] w (X3 (.bool (decide (0<=n)&&!decide (n∈R.flatten))) w):=by
 have H:=qQ (mY v R w h k g);clear h g;unfold bQ at H;generalize R.flatten=l at*;have b:=qQ (fun W A c (m:jd W w.1.size (.slice A l.length c) l)=>QI (.slice A l.length c) l n W (jd.xE m) (by omega));generalize decide (n∈l)=q at*;by_cases a:0<=n
 ·rw[qB a];go_enter func116,ntmps116;go_wp2_with fail;refine H.out.mono ?_;rintro e w'⟨A,c,rfl,d,f⟩;have i:=qQ (b.out _ _ _ d);have j:=qQ f;clear d f;go_wp2_with fail;refine i.out.mono ?_;rintro e p⟨rfl,rfl⟩;go_wp2;go_ret;exact⟨by simp,j.out⟩
 ·rw[qA a];have o:decide (0<=n)=false:=qA a;clear H b;go_enter func116,ntmps116;go_wp2;go_ret;exact⟨rfl,qU _ _⟩
theorem Gw{R:LvL}(h:5<R.length∨40<R.flatten.length):yR R=false:=qA fun a=>by have:=a.1;have:=a.2.1;omega
theorem qQK{R:LvL}(a:R.length<=5)(b:R.flatten.length<=40):yR R=true↔mM (yS R.flatten) R.flatten.length:=by
 have h:=Dt R.flatten;rw[pW]at h;rw[h];exact⟨fun e=>(of_decide_eq_true e).2.2,fun e=>qB ⟨a,b,e.1,e.2⟩⟩
theorem BQ{s:List Int}{k:Nat}{x:Int}(h:mM s k)(a:s[k]? = some x)(d:0<=x)(f:∀j y,k=j+1->s[j]? = some y->x≠y):mM s (k+1):=by
 intro i g;rcases qh i k with c|c
 ·exact h i c
 ·obtain rfl:i=k:=by omega
  refine⟨by rw[qj,a];exact d,fun m=>?_⟩;have l:i<s.length:=(qO.1 a).1;obtain⟨y,b⟩:∃y,s[i-1]? = some y:=⟨_,qD (by omega)⟩
  rw[qj,a,qj,b];exact f (i-1) y (by omega) b
theorem qQV{s:List Int}{k m:Nat}{x:Int}(b:s[k]? = some x)(a:k<m)(c:x<0):¬mM s m:=fun h=>by
 have:=(h k a).1;rw[qj,b]at this;have:0<=x:=this;omega
theorem qQY{s:List Int}{k m:Nat}{x:Int}(b:s[k+1]? = some x)(c:s[k]? = some x)(a:k+1<m):¬mM s m:=fun h=>by
 have:=(h (k+1) a).2 (by omega);rw[qj,b,Nat.add_sub_cancel,qj,c]at this;exact this rfl
theorem JS(v:Value)(R:LvL)(w:World)(h:kh w v R)(r:R.flatten.length<=100000)(f:R.length<=100000):
  Calls prog 115 #[v] w (X3 (.bool (yR R)) w):=by
 have H:=qQ (mY v R w h r f);obtain⟨A0,o0,c0,rfl,-,-⟩:=h.form;unfold bQ at H;clear h;by_cases g:5<R.length
 ·rw[Gw (qX g)];obtain⟨n,d⟩:∃n,n=R.length:=⟨_,rfl⟩
  rw[<-d]at H g f ⊢;clear d;generalize R.flatten=l at*;have q1:decide ((5:Int)<(n:Int))=true:=qB (by omega);have q2:decide (5<n)=true:=qB g;clear r f;go_enter func115,ntmps115;go_wp2_with fail;refine H.out.mono ?_;rintro e w'⟨A,c,rfl,o,a⟩;have t:=qQ a;clear o a;go_wp2;go_ret;exact⟨rfl,t.out⟩
 ·by_cases p:40<R.flatten.length
  ·rw[Gw (qY p)];obtain⟨n,d⟩:∃n,n=R.length:=⟨_,rfl⟩
   rw[<-d]at H g f ⊢;clear d;obtain⟨m,B⟩:∃m,m=R.flatten.length:=⟨_,rfl⟩
   rw[<-B]at H p r;clear B;generalize R.flatten=l at*;have q1:decide ((5:Int)<(n:Int))=false:=qA (by omega);have q2:decide (5<n)=false:=qA (by omega);have q3:decide ((40:Int)<(m:Int))=true:=qB (by omega);have q4:decide (40<m)=true:=qB p;clear r f g p;go_enter func115,ntmps115;go_wp2_with fail;refine H.out.mono ?_;rintro e w'⟨A,c,rfl,o,a⟩;have t:=qQ a;clear o a;go_wp2;go_ret;exact⟨rfl,t.out⟩
  ·have C:=qQ (qQK (R:=R) (by omega) (by omega));obtain⟨n,d⟩:∃n,n=R.length:=⟨_,rfl⟩
   rw[<-d]at H g f ⊢;clear d;have N:=qQ (pW R.flatten);have U:=qQ (fun W A c (hr:jd W w.1.size (.slice A R.flatten.length c) R.flatten)=>qQJ W w.1.size R.flatten.length c A R.flatten hr rfl (by omega));obtain⟨m,B⟩:∃m,m=R.flatten.length:=⟨_,rfl⟩
   rw[<-B]at H p r C N U;clear B;generalize hq:yR R=q at*;clear hq;generalize hs:yS R.flatten=s at*;clear hs;generalize R.flatten=l at*;have q1:decide ((5:Int)<(n:Int))=false:=qA (by omega);have q2:decide (5<n)=false:=qA (by omega);have q3:decide ((40:Int)<(m:Int))=false:=qA (by omega);have q4:decide (40<m)=false:=qA (by omega);have ad:m<=40:=(by omega);clear r f g p;go_enter func115,ntmps115;go_wp2_with fail;refine H.out.mono ?_;rintro e w1⟨A,c,rfl,o,a⟩;have t:=qQ a;have ab:=qQ (U.out w1 A c o);clear o a;go_wp2_with fail;refine ab.out.mono ?_;rintro e w2⟨rfl,Z,h4⟩;have K:=qQ (show Below w.1.size w w2 from t.out.trans h4);have aa:=jd.xE Z;obtain⟨A',off,ac,Y,-,hc⟩:=aa.form;obtain⟨rfl,-,rfl⟩:=Value.slice.inj Y;have T:=qQ hc;clear Z h4 aa Y hc;go_wp2;go_loopw [20] (fun i wr=>∃k:Nat,k<=m/\i=.int .i64 k/\mM s k/\wr=w2) (fun i _=>m-(intOf i).toNat)
   case atStart=>exact⟨0,qI _,rfl,fun i hi=>(by omega),rfl⟩
   case round =>
    obtain⟨k,hk,rfl,hst,rfl⟩:=hrel;have O:=qQ hst;clear hst;by_cases I:k<m
    ·have l1:(k:Int)<(m:Int):=(by omega);obtain⟨x,P⟩:∃x,s[k]? = some x:=⟨_,qD (by rw[N.out];exact I)⟩
     obtain⟨b,rfl,hb,cx⟩:=T.out k x P;have F:=qQ P;clear P hb;by_cases u:x<0
     ·have M:=qQ (qQV F.out I u);have S:q=false:=by cases q with|true=>exact absurd (C.out.1 rfl) M.out|false=>rfl
      subst S;have q5:decide (x<0)=true:=qB u;go_wp2;go_ret;exact⟨rfl,K.out⟩
     ·have q5:decide (x<0)=false:=qA u;have G:0<=x:=(by omega);cases k with
      | zero =>
        have L:=qQ (BQ O.out F.out G (fun j y e=>by omega));rw[Nat.add_zero]at cx;clear u G;go_wp2;refine⟨⟨1,by omega,rfl,L.out,trivial⟩,by simp[intOf];omega⟩
      | succ j =>
        obtain⟨y,Q⟩:∃y,s[j]? = some y:=⟨_,qD (by rw[N.out];omega)⟩
        obtain⟨b',X,-,cy⟩:=T.out j y Q;obtain rfl:b=b':=(by cases X;rfl);have V:=qQ Q;have q6:decide ((0:Int)<((j+1:Nat):Int))=true:=qB (by omega);have q7:IntKind.i64.wrap (((j+1:Nat):Int)-1)=(j:Int):=(by rw[qy _ ⟨by omega,by omega⟩];omega);have q8:(j:Int)<(m:Int):=(by omega);clear Q X;by_cases J:x=y
        ·subst J;have M:=qQ (qQY F.out V.out I);have S:q=false:=by cases q with|true=>exact absurd (C.out.1 rfl) M.out|false=>rfl
         subst S;go_wp2;go_ret;exact⟨rfl,K.out⟩
        ·have L:=qQ (BQ O.out F.out G (fun i z e hz=>by
          obtain rfl:i=j:=(by omega);rw[V.out]at hz;obtain rfl:y=z:=(by simpa using hz);exact J))
         have q9:(x==y)=false:=qg.2 J;clear u G J;go_wp2;refine⟨⟨j+1+1,by omega,by go_num,L.out,trivial⟩,by simp[intOf];omega⟩
    ·obtain rfl:k=m:=(by omega);have l1:¬(k:Int)<(k:Int):=(by omega);have qt:q=true:=C.out.2 O.out;subst qt;clear I;go_wp2;go_ret;exact⟨rfl,K.out⟩
def kc(n c:Int)(d:Nat)(v:Value):Value:=.agg #[n,c,.int .u64 (d:Nat),v]
abbrev vr(n c:Int)(d:Nat)(v:Value):Obj:=.cells #[n,c,.int .u64 (d:Nat),v] 47
theorem qQU(n c:Int)(d:Nat)(R:LvL)(a:0<=n)(b:n<=1000000)(f:0<=c)(g:c<=2147483647)(i:yR R=true):fV ⟨n,c,d,R⟩=true↔∀x∈R.flatten,x<n:=by
 unfold fV;rw[decide_eq_true_iff];exact⟨fun h=>h.2.2.2.2.2,fun h=>⟨a,b,f,g,of_decide_eq_true i,h⟩⟩
theorem qQG{n c:Int}{d:Nat}{R:LvL}(a:yR R=false):fV ⟨n,c,d,R⟩=false:=qA fun h=>(of_decide_eq_false a) h.2.2.2.2.1
theorem qQW{n c:Int}{d:Nat}{R:LvL}(h:n<0∨1000000<n∨c<0∨2147483647<c):fV ⟨n,c,d,R⟩=false:=qA fun i=>by
 obtain⟨a,b,f,g,-⟩:=i;simp only at a b f g;omega
theorem cj{B:Nat}{w w':World}{p:Addr}{v:Value}(a:Below B w w')(b:p.block<B)(h:w.cell? p=some v):w'.cell? p=some v:=(a.cell b).trans h
theorem qQA(n c:Int)(d:Nat)(A:Option Addr)(k cp:Nat)(R:LvL)(w:World)(a:n<0∨1000000<n∨c<0∨2147483647<c):
  Calls prog 192 #[kc n c d (.slice A k cp)] w (X3 (.bool (fV ⟨n,c,d,R⟩)) w):=by
 rw[qQW a];have b:=(qU w.1.size w).alloc (qK _) (vr n c d (.slice A k cp));unfold kc;by_cases f:n<0
 ·have l:decide (n<0)=true:=qB f;clear a;go_enter func192,ntmps192;go_wp2;go_ret;exact⟨rfl,b⟩
 ·have l:decide (n<0)=false:=qA f;by_cases g:1000000<n
  ·have m:decide (1000000<n)=true:=qB g;clear a;go_enter func192,ntmps192;go_wp2;go_ret;exact⟨rfl,b⟩
  ·have m:decide (1000000<n)=false:=qA g;by_cases i:c<0
   ·have o:decide (c<0)=true:=qB i;clear a;go_enter func192,ntmps192;go_wp2;go_ret;exact⟨rfl,b⟩
   ·have o:decide (c<0)=false:=qA i;have j:2147483647<c:=(by omega);have p:decide (2147483647<c)=true:=qB j;clear a;go_enter func192,ntmps192;go_wp2;go_ret;exact⟨rfl,b⟩
theorem JT(n c:Int)(d:Nat)(A:Option Addr)(k cp:Nat)(R:LvL)(w:World)(h:kh w (.slice A k cp) R)(F:R.flatten.length<=100000)(T:R.length<=100000):
  Calls prog 192 #[kc n c d (.slice A k cp)] w (X3 (.bool (fV ⟨n,c,d,R⟩)) w):=by
 by_cases H:n<0∨1000000<n∨c<0∨2147483647<c
 ·exact qQA n c d A k cp R w H
 have q0:decide (n<0)=false:=qA (by omega);have q1:decide (1000000<n)=false:=qA (by omega);have q2:decide (c<0)=false:=qA (by omega);have q3:decide (2147483647<c)=false:=qA (by omega);have f:=(qU w.1.size w).alloc (qK _) (vr n c d (.slice A k cp));have M:=qQ f;have u:=h.below f (qK _);have o:=qQ (JS _ R _ u F T);unfold kc;cases g:yR R with
 | false =>
   rw[g]at o;rw[qQG g];clear h f u g H;go_enter func192,ntmps192;go_wp2_with fail;refine o.out.mono ?_;rintro e J⟨rfl,a⟩;have s:=qQ a;clear a;go_wp2;go_ret;exact⟨rfl,bj M.out s.out⟩
 | true =>
   rw[g]at o;have O:=qQ (qQU n c d R (by omega) (by omega) (by omega) (by omega) g);have r:=qQ (fun W (hW:Below (w.1.size+1) (w.alloc (vr n c d (.slice A k cp))) W)=>mY _ R W (u.below hW (by simp)) F T);obtain⟨m,G⟩:∃m,m=R.flatten.length:=⟨_,rfl⟩
   have B:=qQ G;unfold bQ at r;rw[<-G]at r F;clear G;generalize fV ⟨n,c,d,R⟩=q at*;generalize R.flatten=l at*;have c0:(w.alloc (vr n c d (.slice A k cp))).cell? ⟨w.1.size,0,none⟩=some (.int .i64 n):=World.cell?_alloc_at _ _ _ _ rfl;have t:(w.alloc (vr n c d (.slice A k cp))).cell? ⟨w.1.size,3,none⟩=some (.slice A k cp):=World.cell?_alloc_at _ _ _ _ rfl;have C0:=qQ c0;have C3:=qQ t;clear h f u g H c0 t;go_enter func192,ntmps192;go_wp2_with fail;refine o.out.mono ?_;rintro e J⟨rfl,a⟩;rw[World.size_alloc]at a;have c0:=cj a (show w.1.size<w.1.size+1 by omega) C0.out;have t:=cj a (show w.1.size<w.1.size+1 by omega) C3.out;have ab:=a.size;rw[World.size_alloc]at ab;have s:=qQ (M.out.trans (a.mono (by simp)));have K:=qQ (r.out J a);clear a r o;go_wp2_with fail;refine K.out.mono ?_;rintro e w2⟨A2,c2,rfl,Y,C⟩;have N:=qQ (bj s.out (C.mono (by have:=s.out.size;omega)));have d0:=cj C (show w.1.size<J.1.size by omega) c0;obtain⟨A',off,aa,Q,-,V⟩:=(jd.xE Y).form;have S:(Value.slice A2 m c2)=.slice A' m aa:=(by rw[Q,<-B.out]);obtain⟨rfl,-,rfl⟩:=Value.slice.inj S;have HC:=qQ V;clear Y C V K c0 t Q S;go_wp2;go_loopw [33] (fun i wr=>∃j:Nat,j<=m/\i=.int .i64 j/\(∀i x,i<j->l[i]? = some x->x<n)/\wr=w2) (fun i _=>m-(intOf i).toNat)
   case atStart=>exact⟨0,qI _,rfl,fun i x z=>(by omega),rfl⟩
   case round =>
    obtain⟨j,hj,rfl,U,rfl⟩:=hrel;have L:=qQ U;clear U;by_cases X:j<m
    ·have l1:(j:Int)<(m:Int):=(by omega);obtain⟨x,p⟩:∃x,l[j]? = some x:=⟨_,qD (by rw[<-B.out];exact X)⟩
     obtain⟨b,rfl,f,cx⟩:=HC.out j x p;have P:=qQ p;clear p f;by_cases Z:n<=x
     ·have qf:q=false:=by
       cases q with
       | false=>rfl
       | true=>have:=O.out.1 rfl x (qM P.out);omega
      subst qf;have q4:decide (n<=x)=true:=qB Z;go_wp2;go_ret;exact⟨rfl,N.out⟩
     ·have q4:decide (n<=x)=false:=qA Z;go_wp2;refine⟨⟨j+1,by omega,by go_num,fun i y z I=>?_,trivial⟩,by simp[intOf];omega⟩;rcases qh i j with e|e
      ·exact L.out i y e I
      ·obtain rfl:i=j:=(by omega);rw[P.out]at I;have:=qb I;omega
    ·obtain rfl:j=m:=(by omega);have l1:¬(j:Int)<(j:Int):=by omega
     have qt:q=true:=O.out.2 fun x p=>by
      obtain⟨i,z⟩:=qd p;exact L.out i x (by have:=(qO.1 z).1;rw[<-B.out]at this;exact this) z
     subst qt;clear X;go_wp2;go_ret;exact⟨rfl,N.out⟩
end
section
open Go.RowKit
def df(w0:World)(E:List Nat)(w:World)(v:Value)(R:LvL):Prop:=∀W,Below w0.1.size w0 W->jE E w W->kh W v R
section
variable {At:jR}{w0 w w':World}{gd:Nat}{D:jD}{E E':List Nat}{v:Value}{R:LvL}
theorem df.now(h:df w0 E w v R)(a:DS At w0 gd D E w):kh w v R:=h w a.kept (jE.refl _ _)
theorem df.step(h:df w0 E w v R)(b:jE E w w'):df w0 E w' v R:=fun W a k=>h W a (b.trans k)
end
def BJ(At:jR)(w0:World)(gd:Nat)(D:jD)(m:kJ)(E:List Nat)(w:World)(e:Ending)(w':World):Prop :=
 ∃v,e=.returned v/\uR w' v (gq (D.l.map jI.name) m)/\DS At w0 gd D (jL v++E) w'/\jE E w w'
structure uy(At:jR):Prop where
 swap:∀ {w0 w:World} {gd:Nat} {D:jD} {E:List Nat} (n c:Int) (d:Nat) (A:Option Addr) (k cp:Nat) (R:LvL),DS At w0 gd D E w->WfP D->df w0 E w (.slice A k cp) R->k=R.length->R.flatten.length<=100000->R.length<=100000->d<18446744073709551616 ->
  Calls prog 180 #[ptr gd,kc n c d (.slice A k cp)] w (y9 At w0 gd (err (uU D ⟨n,c,d,R⟩).1) (uU D ⟨n,c,d,R⟩).2 E w)
 clean:∀ {w0 w:World} {gd:Nat} {D:jD} {E:List Nat} (n c:Int) (d:Nat) (A:Option Addr) (k cp:Nat) (R:LvL),DS At w0 gd D E w->WfP D->df w0 E w (.slice A k cp) R->k=R.length->R.flatten.length<=100000->R.length<=100000 ->
  Calls prog 83 #[ptr gd,kc n c d (.slice A k cp)] w (y9 At w0 gd (err (mn D ⟨n,c,d,R⟩).1) (mn D ⟨n,c,d,R⟩).2 E w)
theorem qQB{At:jR}(api:jS At)(w:World)(c:Nat)(j:c<=1048576):Calls prog 24 #[c] w fun e w'=>∃g,e=.returned (.tuple #[ptr g,.int .i64 0])/\DS At w g (fj c) [] w':=by
 refine(api.jB w.1.size c w (qK _) j).mono ?_;rintro e w'⟨g,F,a,d,l,f⟩;exact⟨g,a,F,d,f.below (qK _) (fun x k=>(by cases k)),fun b i=>(by cases i)⟩
theorem uR.own{w:World}{v:Value}{l:List Tw}(h:uR w v l):∀b∈jL v,b<w.1.size∨l=[]:=by
 intro b a;rcases h with⟨rfl,-⟩|⟨g,off,f,rfl,-,-,c,-⟩
 ·exact qY rfl
 ·have d:=jt.1 a;obtain rfl:g=b:=by simpa[Value.ownBlock] using d
  exact qX c
section
variable {At:jR}(api:jS At){w0 w:World}{gd:Nat}{D:jD}{E:List Nat}
include api
theorem qQC(h:DS At w0 gd D E w)(ok:WfP D):Calls prog 98 #[ptr gd] w fun e w'=>∃v B,e=.returned v/\uR w' v (D.l.map jI.name)/\DS At w0 gd D (B++E) w'/\jE E w w'/\(D.l≠[]->∀b∈jL v,b∈B):=by
 obtain⟨F,m,n,c⟩:=h;refine(api.names m ok.ok).mono ?_;rintro e w'⟨f,v,i,g,s,j,t,d⟩;have p:jE E w w':=⟨d.size,fun b a=>d.block b (c b a).2 (c b a).1⟩
 have r:∀b∈E,b ∉ f/\b<w'.1.size:=fun b a=>⟨fun u=>by
  rcases t b u with k|k
  ·exact(c b a).1 k
  ·have:=(c b a).2;omega,qS (c b a).2 d.size⟩
 have o:=n.trans (d.below n.size (fun x z=>(api.low m x z).1));by_cases q:D.l=[]
 ·exact⟨v,[],i,g,⟨f,j,o,r⟩,p,fun h=>absurd q h⟩
 ·refine⟨v,jL v,i,g,⟨f,j,o,fun b a=>?_⟩,p,fun _ b a=>a⟩;rcases qE.1 a with a|a
  ·have y:=jt.1 a;rcases g.own b a with h|h
   ·exact⟨(s b y).2,h⟩
   ·exact absurd (List.map_eq_nil_iff.1 h) q
  ·exact r b a
end
theorem DS.box{At:jR}(api:jS At){w0 w:World}{gd:Nat}{D:jD}{E:List Nat}(h:DS At w0 gd D E w)(o:Obj):DS At w0 gd D E (w.alloc o):=h.below api ((qU w.1.size w).alloc (qK _) o)
theorem jE.ints{E:List Nat}{w w':World}{v:Value}{l:List Int}(h:jE E w w')(a:kF w v l)(k:∀b∈jL v,b∈E):kF w' v l:=by
 rcases a with a|⟨b,off,c,rfl,d,f,g,j⟩
 ·exact qX a
 ·exact qY ⟨b,off,c,rfl,d,f,qS g h.size,fun i x m=>(World.cell?_of_block (w:=w) (h.block b (k b (jt.2 rfl)))).trans (j i x m)⟩
end
section
open Go.RowKit Go.Shelf
theorem qQD{R:LvL}{k:Nat}{x:List Int}(a:R[k]? = some x)(h:x.length≠0):vi R (k+1)=k+1:=by
 unfold vi;rw[qZ];rw[qj,a];exact fun e=>h (by rw[show x=[] from e];rfl)
theorem qQE{R:LvL}{k:Nat}{x:List Int}(a:R[k]? = some x)(h:x.length=0):vi R (k+1)=vi R k:=by
 rw[vi,qV];rw[qj,a];exact xK.1 h
theorem kh.take{w:World}{n c k:Nat}{A:Option Addr}{R:LvL}(h:kh w (.slice A n c) R)(g:n=R.length)(r:k<=n):
  kh w (.slice A k c) (R.take k)/\(0<n->sliced A 0 k c 1=.slice A k c/\k<=c):=by
 obtain⟨M,⟨j,l⟩,rfl⟩:=h;rw[bX]at g;subst g;have q:fq w (M.take k):=fun x d=>l x (List.mem_of_mem_take d)
 have s:(M.take k).length=k:=by rw[qT];omega
 rcases j with⟨rfl,a,u,f⟩|⟨b,off,y,f,B,m,o,p⟩
 ·obtain⟨rfl,-,rfl⟩:=Value.slice.inj f;have t:k=0:=by simpa using r
  subst t;exact⟨⟨[],⟨qX ⟨rfl,_,_,rfl⟩,fun x d=>(by cases d)⟩,rfl⟩,fun h=>absurd h (by simp)⟩
 ·obtain⟨rfl,-,rfl⟩:=Value.slice.inj f;refine⟨⟨M.take k,⟨qY ⟨b,off,c,by rw[s],by omega,m,o,fun i x d=>?_⟩,q⟩,by rw[KF]⟩,fun z=>⟨?_,by omega⟩⟩
  ·rw[List.getElem?_take]at d;split at d
   ·exact p i x d
   ·cases d
  ·unfold sliced;rw[qZ (by omega)];simp[Addr.add]
theorem qQF{n c k:Nat}{A:Option Addr}(b:k<=c)(e:sliced A 0 k c 1=.slice A k c)(W:World):(Instr.slice 45 (.slice A n c) none (some (.int .i64 (k:Nat))) none).run prog W=.ok (.slice A k c) W:=by
 have a:(sizeOf (prog.elem 45)).run prog W=.ok 1 W:=by simp[go_sem]
 rw[run_slice_h W _ _ _ c Tryz.underlying45 .i64 _ (by omega) (by omega),a];show Result.ok (sliced _ _ _ _ _) W=_;rw[qm,e]
def QM(w:World)(t:Nat)(A:Option Addr)(c:Nat)(e:Ending)(w':World):Prop:=e=.returned (.slice A t c)/\w'=w
theorem BV{w:World}{n c k:Nat}{A:Option Addr}{R:LvL}(h:kh w (.slice A n c) R)(a:n=R.length)(b:k=vi R n):
  k=(kO R).length/\kh w (.slice A k c) (kO R):=by
 have d:=Qr R n;have e:kO R=R.take k:=by unfold kO;rw[<-a,b]
 refine⟨by rw[e,qT];omega, ?_⟩;rw[e];exact(h.take a (by omega)).1
theorem qQH{w:World}{n c:Nat}{A:Option Addr}{R:LvL}(h:kh w (.slice A n c) R)(r:n=R.length):∀j,j<n->∃g off a m d,A=some ⟨g,off,none⟩/\w.cell? ⟨g,off+j,none⟩=some (.slice a m d)/\(m≠0->vi R (j+1)=j+1)/\(m=0->vi R (j+1)=vi R j):=by
 intro j q;obtain⟨o,off,p,i,-,k⟩:=h.form;obtain⟨rfl,-,rfl⟩:=Value.slice.inj i;obtain⟨y,f⟩:∃y,R[j]? = some y:=⟨_,qD (by omega)⟩
 obtain⟨b,u,rfl,-,c1,l⟩:=k j y f;obtain⟨a,s,d,rfl,-,-⟩:=l.form;exact⟨b,off,a,y.length,d,rfl,c1,qQD f,qQE f⟩
theorem qQI(A:Option Addr)(n c:Nat)(R:LvL)(w:World)(h:kh w (.slice A n c) R)(d:n=R.length)(G:n<=100000):
  Calls prog 271 #[.slice A n c] w (QM w (kO R).length A c):=by
 have p:=qQ (fun k (b:k=vi R n)=>(BV h d b).1);have B:=qQ (fun k m (b:k<=n) (a:0<n) W=>qQF (n:=m) ((h.take d b).2 a).2 ((h.take d b).2 a).1 W);have t:=qQ (qQH h d);unfold QM;generalize (kO R).length=N at*;clear h d;generalize q:vi R=f at*;have z:=qQ (show f 0=0 by rw[<-q];rfl);clear q;go_enter func271,ntmps271;go_wp2;go_loopw [0] (fun u wr=>∃k:Nat,k<=n/\u=.slice A k c/\f k=f n/\wr=w) (fun u _=>match u with | .slice _ k _=>k|_=>0)
 case atStart=>exact⟨n,qK _,rfl,rfl,rfl⟩
 case round =>
  obtain⟨k,b,rfl,r,rfl⟩:=hrel;have i:=qQ r;clear r;cases k with
  | zero =>
    obtain rfl:=p.out 0 (by rw[<-i.out,z.out]);go_wp2;go_ret;exact⟨rfl,rfl⟩
  | succ j =>
    obtain⟨g,off,C,m,F,rfl,c1,l,o⟩:=t.out j (by omega);have I:decide ((0:Int)<((j+1:Nat):Int))=true:=qB (by omega);have J:IntKind.i64.wrap (((j+1:Nat):Int)-1)=(j:Int):=(by rw[qy _ ⟨by omega,by omega⟩];omega);have K:(j:Int)<((j+1:Nat):Int):=(by omega);by_cases a:m=0
    ·subst a;have y:=qQ ((o rfl).symm.trans i.out);have H:=fun W=>B.out j (j+1) (by omega) (by omega) W
     clear l o;go_wp2;exact⟨⟨j,by omega,rfl,y.out,trivial⟩,by simp⟩
    ·have s:=qQ (p.out (j+1) (by rw[<-i.out,l a]));have L:(((m:Nat):Int)==0)=false:=qg.2 (by omega);have M:(m==0)=false:=qg.2 a;clear l o a;go_wp2;go_ret;exact⟨by rw[<-s.out];rfl,rfl⟩
theorem qQL(A:Option Addr)(n c:Nat)(R:LvL)(d:n=R.length)(g:n<=100000):∃a b,∀w,kh w (.slice A n c) R ->
  Calls prog 271 #[.slice A n c] w (QM w (kO R).length a b)/\kh w (.slice a (kO R).length b) (kO R) :=
 ⟨A,c,fun w h=>⟨qQI A n c R w h d g,by
  obtain⟨e,f⟩:=BV h d rfl;rw[<-e];exact f⟩⟩
def oT: LvS:=⟨.slice none 0 0,[]⟩
theorem qQM(n:Nat):(madeCells #[Value.slice none 0 0] (n*1)).toList=cQ (List.replicate n oT):=by
 unfold cQ;rw[List.map_replicate];apply xV;intro i;rw[Array.getElem?_toList,List.getElem?_replicate];by_cases h:i<n
 ·rw[qV h];unfold madeCells;simp[h,Nat.mod_one,oT]
 ·rw[qZ h,Array.getElem?_eq_none (by rw[size_madeCells];omega)]
theorem qQN(n:Nat)(g:n<=1000000):∃Z:Array Value,(∀w:World,(Instr.makeSlice 45 (.int .i64 (n:Nat)) (.int .i64 (n:Nat))).run prog w=.ok (.slice (some ⟨w.1.size,0,none⟩) n n) (w.alloc (.cells Z 37))) /\
  ∀w:World,js (w.alloc (.cells Z 37)) w.1.size (.slice (some ⟨w.1.size,0,none⟩) n n) (List.replicate n oT):=by
 obtain⟨f,b,c,a,d⟩:=info_parts KD;refine⟨madeCells #[Value.slice none 0 0] (n*1),fun w=>?_,fun w=>?_⟩
 ·have h:=run_makeSlice (P:=prog) w 45 37 f _ Tryz.underlying45 b c .i64 .i64 (n:Int) (n:Int) (by omega) (Int.le_refl _) (by rw[a];omega) (by rw[d];omega) (by omega);rw[a,qm]at h;exact h
 ·have h:=World.ownsRow_lit (base:=w.1.size) (e:=37) (size:=1) w (madeCells #[Value.slice none 0 0] (n*1)) n (qK _) (by unfold maxLen;omega) (size_madeCells _ _);unfold js;rw[List.length_replicate,<-qQM];exact h
def lY(R:LvL)(n k:Nat):LvL:=R.take k++List.replicate (n-k) []
theorem qQO(R:LvL)(n:Nat):lY R n 0=List.replicate n []:=by unfold lY;rw[List.take_zero,List.nil_append,Nat.sub_zero]
theorem BY{R:LvL}{n k:Nat}(a:k<=R.length)(h:R.length<=n):(lY R n k).length=n:=by
 unfold lY;rw[qN,qT,List.length_replicate];omega
theorem qQP{R:LvL}{n k:Nat}{x:List Int}(a:R[k]? = some x)(h:R.length<=n):(lY R n k).set k x=lY R n (k+1):=by
 have b:k<R.length:=(qO.1 a).1;have e:n-k=(n-(k+1))+1:=by omega
 unfold lY;rw[List.set_append_right _ _ (by rw[qT];omega),qT,Nat.min_eq_left (by omega),Nat.sub_self,e,List.replicate_succ,List.set_cons_zero,qw,a];simp
theorem qQR(R:LvL):lY R 5 R.length=ke R:=rfl
def bD(w:World)(g n:Nat)(R:LvL)(k:Nat)(wr:World):Prop:=∃M,js wr w.1.size (.slice (some ⟨g,0,none⟩) n n) M/\gN wr w.1.size M/\pA M/\lvl M=lY R n k/\Below w.1.size w wr
theorem bD.start{w w1:World}{Z:Array Value}(n:Nat)(R:LvL)(h:js (w.alloc (.cells Z 37)) w.1.size (.slice (some ⟨w.1.size,0,none⟩) n n) (List.replicate n oT)):bD w w.1.size n R 0 (w.alloc (.cells Z 37)):=by
 refine⟨_,h,fun x a=>?_,fun i j x y a f d g b=>?_, ?_,(qU w.1.size w).alloc (qK _) _⟩
 ·rw[List.eq_of_mem_replicate a];exact jd.nil _ _
 ·have c:=List.eq_of_mem_replicate (qM a);rw[c]at b;cases b
 ·rw[qQO];unfold lvl;rw[List.map_replicate];rfl
theorem bD.cell{w wr:World}{g n k m:Nat}{R:LvL}(h:bD w g n R k wr)(s:m<n)(j:k<=R.length)(i:R.length<=n):(∃u,wr.cell? ⟨g,m,none⟩=some u)/\wr.frozen? ⟨g,m,none⟩=false/\w.1.size<=g/\g<wr.1.size:=by
 obtain⟨M,a,p,q,f,r⟩:=h;have l:M.length=n:=by rw[<-bX,f,BY j i]
 obtain⟨y,o⟩:∃y,M[m]? = some y:=⟨_,qD (by omega)⟩
 obtain⟨c1,c2⟩:=js.cell a l.symm o;obtain⟨d,e,b,c,-⟩:=js.some_ a (by omega);obtain rfl:g=d:=by cases e;rfl
 exact⟨⟨_,c1⟩,c2,b,c⟩
theorem bD.next{w wr w2:World}{g n k m c:Nat}{A:Option Addr}{R:LvL}{x:List Int}(h:bD w g n R k wr)(s:R[k]? = some x)(d:R.length<=n)(r:jd w2 wr.1.size (.slice A m c) x)(f:Below wr.1.size wr w2):
  bD w g n R (k+1) (w2.setCell ⟨g,k,none⟩ (.slice A m c)):=by
 have N:k<R.length:=(qO.1 s).1;obtain⟨-,-,z,K⟩:=h.cell (m:=k) (by omega) (by omega) d;obtain⟨M,t,o,u,p,b⟩:=h;have B:M.length=n:=by rw[<-bX,p,BY (by omega) d]
 have l:=js.below t f (qK _);have G:=o.below f (qK _);have H:=js.put l B.symm (i:=k) ⟨.slice A m c,x⟩;refine⟨M.set k ⟨.slice A m c,x⟩,H,fun y a=>?_,u.set fun q C j y L a F=>?_, ?_,(b.trans (f.mono b.size)).setCell z _⟩
 ·rcases List.mem_or_eq_of_mem_set a with a|rfl
  ·exact jd.x9 (G y a) l
  ·exact jd.x9 (jd.down r b.size) l
 ·have I:=(jd.block r q C).1;have J:=(jd.block (o y (qM a)) q F).2;omega
 ·rw[sM,p];exact qQP s d
def QN(w:World)(R:LvL)(e:Ending)(w':World):Prop:=∃g,e=.returned (.slice (some ⟨g,0,none⟩) 5 5)/\bD w g 5 R R.length w'
theorem BU(v:Value)(R:LvL)(w:World)(h:kh w v R)(hl:R.flatten.length<=100000)(r:R.length<=5):Calls prog 117 #[v] w (QN w R):=by
 obtain⟨A,off,ac,rfl,-,J⟩:=h.form;have O:=qQ J;have P:=qQ (fun k x (f:R[k]? = some x)=>oS f);have T:=qQ (fun wr g k j A m c x (o:bD w g 5 R k wr) (q:R[k]? = some x) (a:jd j wr.1.size (.slice A m c) x) d=>o.next q r a d);have B:=qQ (fun wr g k m (o:bD w g 5 R k wr) (q:m<5) a=>o.cell q a r);obtain⟨Z,H,I⟩:=qQN 5 (by omega);have V:=qQ (bD.start (w1:=w) 5 R (I w));have hZ:∀w:World,(Instr.makeSlice 45 (.int .i64 5) (.int .i64 5)).run prog w=.ok (.slice (some ⟨w.1.size,0,none⟩) 5 5) (w.alloc (.cells Z 37)):=H;unfold QN;obtain⟨n,z⟩:∃n,n=R.length:=⟨_,rfl⟩
 have Q:=qQ z;rw[<-z]at r B ⊢;clear h J z I H;go_enter func117,ntmps117;go_wp2;go_loopg [9] n (fun g i wr=>∃(k:Nat),k+g=n/\i=.int .i64 k/\bD w w.1.size 5 R k wr)
 case atStart=>exact⟨0,by omega,rfl,V.out⟩
 case round =>
  obtain⟨k,ad,rfl,K⟩:=hrel;have l:=qQ K;clear K;cases gk with
  | zero =>
    obtain rfl:k=n:=(by omega);have s1:¬(k:Int)<(k:Int):=(by omega);go_wp2;go_ret;exact⟨_,rfl,l.out⟩
  | succ X =>
    have aa:k<n:=(by omega);have s1:(k:Int)<(n:Int):=(by omega);obtain⟨x,f⟩:∃x,R[k]? = some x:=⟨_,qD (by rw[<-Q.out];exact aa)⟩
    obtain⟨b,u,rfl,Y,c1,t⟩:=O.out k x f;obtain⟨M,-,-,-,-,s⟩:=l.out;have c2:=(s.cell (p:=⟨b,off+k,none⟩) Y).trans c1;have C:=qQ (Qe u x wr (t.below s (qK _)) (by have:=P.out k x f;omega));obtain⟨A2,o2,ab,rfl,-,-⟩:=t.form;have U:=qQ (fun j A c a d=>T.out wr _ k j A x.length c x l.out f a d);obtain⟨⟨y,F⟩,G,-,L⟩:=B.out wr _ k k l.out (by omega) (by omega);unfold bQ at C;clear f t s c1;generalize x.length=m at*;go_wp2_with fail;refine C.out.mono ?_;rintro e j⟨N,W,rfl,a,d⟩;have S:=qQ (U.out j N W a d);have d3:=(d.cell (p:=⟨w.1.size,k,none⟩) L).trans F;have d4:j.frozen? ⟨w.1.size,k,none⟩=false:=(by rw[World.frozen?_of_block (w:=wr) (d.block _ L)];exact G);clear a d F G;go_wp2;go_roundg X
    case measure=>omega
    case rel=>exact⟨k+1,by omega,by go_num,S.out⟩
end
section
open Go.ChangeShapes Go.WideShapes Go.ChangeAt Go.RowKit Go.Deep
abbrev o6(x:Tw):Value:=.string x
theorem qQS{l:List Tw}:∀u∈l.map o6,u.oneCell'=true:=by
 intro u a;obtain⟨x,-,rfl⟩:=qP.1 a;rfl
abbrev gD(w:World)(base:Nat)(v:Value)(l:List Tw):Prop:=w.ownsRow base 9 1 v l.length (l.map o6)
theorem gD.nil(w:World)(base:Nat):gD w base (.slice none 0 0) []:=World.ownsRow_nil _ _ _ _
theorem gD.xE{w:World}{base:Nat}{v:Value}{l:List Tw}(h:gD w base v l):uR w v l:=by
 have b:=h;rcases h.2 with⟨a,f⟩|⟨g,d,n,a,o,j,m,k,q,r⟩
 ·exact qX ⟨xK.1 f,none,0,a⟩
 ·refine qY ⟨g,0,d,a,m,k,(ql.1 j).1,fun i x c=>?_⟩;have p:i<l.length:=(qO.1 c).1;rw[a]at b;rw[qa];refine(b.cellAt i (by omega)).trans ?_;show(l.map o6)[i]? = _;rw[qu,c];rfl
theorem gD.below{w w':World}{base B:Nat}{v:Value}{l:List Tw}(h:gD w base v l)(i:Below B w w')(f:w.1.size<=B):gD w' base v l:=by
 refine⟨h.1, ?_⟩;rcases h.2 with d|⟨g,b,c,m,j,a,r⟩
 ·exact qX d
 ·obtain⟨k,_⟩:=ql.1 a;exact qY ⟨g,b,c,m,j,(i.block g (qS k f)).trans a,r⟩
theorem gD.block{w:World}{base:Nat}{v:Value}{l:List Tw}(h:gD w base v l):∀k,v.ownBlock=some k->base<=k/\k<w.1.size:=fun k a=>h.lt k a
theorem qQT: (prog.info? 9).map (fun i=>(i.zero,i.size,i.bytes))=some (some (.string ⟨#[]⟩),1,16):=by kernel_rfl
theorem uR.src{w:World}{v:Value}{l:List Tw}(h:uR w v l):gI w 1 v l.length (l.map o6):=by
 refine⟨by rw[qz,Nat.mul_one], ?_⟩;rcases h with⟨rfl,a,c,rfl⟩|⟨b,off,f,rfl,m,n,o,i⟩
 ·cases a with
  | none=>exact qX ⟨c,rfl,rfl⟩
  | some a=>exact qY ⟨a,c,rfl,fun j u d=>by cases d⟩
 ·refine qY ⟨⟨b,off,none⟩,f,rfl,fun j u d=>?_⟩;rw[qu]at d;obtain⟨x,k,rfl⟩:=xG.1 d;have g:(⟨b,off,none⟩:Addr).add j=⟨b,off+j,none⟩:=by unfold Addr.add;split<;>simp_all
  rw[g];exact i j x k
theorem qQ0(w:World)(x:Tw):uR (w.alloc (.cells #[Value.string x] 9)) (.slice (some ⟨w.1.size,0,none⟩) 1 1) [x]:=by
 refine qY ⟨w.1.size,0,1,rfl,qK _,by unfold maxLen;omega,by simp,fun i y a=>?_⟩
 match i,a with
 | 0,a =>
   obtain rfl:x=y:=(by simpa using a);simp
theorem qQ1{w:World}{base:Nat}{a b:Value}{l m:List Tw}(n:gD w base a l)(o:uR w b m)(t:l.length+m.length<=1000000)(j:base<=w.1.size)(ty:TypeId):
  ∃A c w',(Builtin.append_ #[55,55] ty #[a,b]).run prog w=.ok (.slice A (l.length+m.length) c) w'/\gD w' base (.slice A (l.length+m.length) c) (l++m)/\w.grownBy w' a.ownBlock/\((Value.slice A (l.length+m.length) c).ownBlock=a.ownBlock∨(Value.slice A (l.length+m.length) c).ownBlock=some w.1.size):=by
 obtain⟨s,k,p,q,r⟩:=info_parts qQT;obtain⟨u,w',f,d,g,i⟩:=cr (P:=prog) w base 55 9 s _ 1 16 ty Tryz.underlying55 k p q r rfl (by decide) a l.length (l.map o6) n b m.length (m.map o6) o.src qQS (by unfold maxLen;omega) (by omega) j;obtain⟨A,c,rfl,-,-,-⟩:=v8 d;refine⟨A,c,w',f, ?_,g,i⟩;unfold gD;rw[List.map_append,qN];exact d
theorem BG{B:Nat}{w w':World}{v:Value}(h:w.grownBy w' v.ownBlock)(b:B<=w.1.size)(a:∀k,v.ownBlock=some k->B<=k):Below B w w':=⟨h.os,h.tape,h.output,h.size,fun k c=>h.block k (by omega) (fun e=>by have:=a k e.symm;omega)⟩
theorem BW{w:World}{base n c:Nat}{A:Option Addr}{l:List Tw}{x:Tw}(r:gD w base (.slice A n c) l)(q:n=l.length)(p:n+1<=1000000)(m:base<=w.1.size)(ty:TypeId):
  ∃w' u,(Builtin.append_ #[55,55] ty #[.slice A n c,.slice (some ⟨w.1.size,0,none⟩) 1 1]).run prog (w.alloc (.cells #[x] 9))=.ok u w' /\
   (∃a b,u=.slice a (n+1) b/\gD w' base (.slice a (n+1) b) (l++[x]))/\Below base w w':=by
 subst q;have j:=(qU w.1.size w).alloc (qK _) (.cells #[x] 9);have d:=gD.below r j (qK _);obtain⟨a,b,w',f,g,i,-⟩:=qQ1 d (qQ0 w x) (by simpa using p) (by simp;omega) ty;exact⟨w',_,f,⟨a,b,rfl,g⟩,((qU base w).alloc m _).trans (BG i (by simp;omega) (fun k o=>(gD.block d k o).1))⟩
end
section
open Go.RowKit Go.Shelf
theorem J0{w:World}{base n c k:Nat}{A:Option Addr}{L:List LvS}(h:js w base (.slice A n c) L)(f:n=L.length)(m:k<=n):js w base (.slice A k c) (L.take k)/\sliced A 0 k c 1=.slice A k c/\k<=c:=by
 subst f;have b:(L.take k).length=k:=by rw[qT];omega
 rcases h.2 with⟨d,s⟩|⟨g,r,a,d,j,l,f,o,p,q⟩
 ·obtain⟨rfl,-,rfl⟩:=Value.slice.inj d;obtain rfl:k=0:=by omega
  rw[List.take_zero];exact⟨js.nil _ _,rfl,qK _⟩
 ·obtain⟨rfl,-,rfl⟩:=Value.slice.inj d;refine⟨⟨?_,qY ⟨g,c,a,by rw[b],j,l,by rw[b];omega,o,p, ?_⟩⟩, ?_,by omega⟩
  ·unfold cQ;rw[qz,Nat.mul_one]
  ·rw[b];have i:a.toList.take (k*1)=(a.toList.take (L.length*1)).take (k*1):=(by rw[List.take_take,Nat.mul_one,Nat.mul_one,Nat.min_eq_left m]);rw[i,q];unfold cQ;rw[List.map_take,Nat.mul_one]
  ·unfold sliced;by_cases t:c=0
   ·rw[qV (by omega)];simp
   ·rw[qZ (by omega)];simp[Addr.add]
theorem qQ2{n c k:Nat}{A:Option Addr}(b:k<=c)(e:sliced A 0 k c 1=.slice A k c)(W:World):(Instr.slice 45 (.slice A n c) none (some (.int .i64 (k:Nat))) none).run prog W=.ok (.slice A k c) W:=by
 have a:(sizeOf (prog.elem 45)).run prog W=.ok 1 W:=by simp[go_sem]
 rw[run_slice_h W _ _ _ c Tryz.underlying45 .i64 _ (by omega) (by omega),a];show Result.ok (sliced _ _ _ _ _) W=_;rw[qm,e]
def BA(w:World)(base:Nat)(M:List LvS)(e:Ending)(w':World):Prop:=∃A t c,e=.returned (.slice A t c)/\t=(kO (lvl M)).length/\vw w' base (.slice A t c) (kO (lvl M))/\w'=w
theorem qQ3{R:LvL}{k:Nat}{x:List Int}(a:R[k]? = some x)(h:x.length≠0):vi R (k+1)=k+1:=by
 unfold vi;rw[qZ];rw[qj,a];exact fun e=>h (by rw[show x=[] from e];rfl)
theorem qQ4{R:LvL}{k:Nat}{x:List Int}(a:R[k]? = some x)(h:x.length=0):vi R (k+1)=vi R k:=by
 rw[vi,qV];rw[qj,a];exact xK.1 h
theorem qQ5{w:World}{base n c k:Nat}{A:Option Addr}{M:List LvS}(h:js w base (.slice A n c) M)(d:gN w base M)(a:n=M.length)(b:k=vi (lvl M) n):
  k=(kO (lvl M)).length/\vw w base (.slice A k c) (kO (lvl M)):=by
 have f:=Qr (lvl M) n;have e:kO (lvl M)=(lvl M).take k:=by unfold kO;rw[bX,<-a,b]
 refine⟨by rw[e,qT,bX];omega,M.take k,(J0 h a (by omega)).1,d.take k,by rw[e,KF]⟩
theorem qQ6(A:Option Addr)(n c base:Nat)(M:List LvS)(w:World)(h:js w base (.slice A n c) M)(s:gN w base M)(i:n=M.length)(Q:n<=100000):
  Calls prog 118 #[.slice A n c] w (BA w base M):=by
 have t:=qQ (fun k (d:k=vi (lvl M) n)=>qQ5 h s i d);have N:=qQ (fun k m (d:k<=n) W=>qQ2 (n:=m) (J0 h i d).2.2 (J0 h i d).2.1 W)
 have J:Hid (∀j,j<n->∃g l m o,A=some ⟨g,0,none⟩/\w.cell? ⟨g,j,none⟩=some (.slice l m o)/\(m≠0->vi (lvl M) (j+1)=j+1)/\(m=0->vi (lvl M) (j+1)=vi (lvl M) j)):=qQ fun j P=>by
  obtain⟨g,rfl,-,-,-⟩:=js.some_ h (by omega);obtain⟨y,q⟩:∃y,M[j]? = some y:=⟨_,qD (by omega)⟩
  obtain⟨c1,-⟩:=js.cell h i q;obtain⟨l,o,e⟩:=(s y (qM q)).slice;rw[e]at c1;exact⟨g,l,_,o,rfl,c1,fun h=>qQ3 (sL q) h,fun h=>qQ4 (sL q) h⟩
 unfold BA;generalize (kO (lvl M)).length=Z at*;generalize kO (lvl M)=O at*;clear h s i;generalize C:vi (lvl M)=f at*;have L:=qQ (show f 0=0 by rw[<-C];rfl);clear C;go_enter func118,ntmps118;go_wp2;go_loopw [0] (fun u wr=>∃k:Nat,k<=n/\u=.slice A k c/\f k=f n/\wr=w) (fun u _=>match u with | .slice _ k _=>k|_=>0)
 case atStart=>exact⟨n,qK _,rfl,rfl,rfl⟩
 case round =>
  obtain⟨k,d,rfl,F,rfl⟩:=hrel;have r:=qQ F;clear F;cases k with
  | zero =>
    obtain⟨b,a⟩:=t.out 0 (by rw[<-r.out,L.out]);have G:=qQ a;clear a;go_wp2;go_ret;exact⟨_,_,_,rfl,b,G.out,rfl⟩
  | succ j =>
    obtain⟨g,l,m,o,rfl,c1,b,a⟩:=J.out j (by omega);have T:decide ((0:Int)<((j+1:Nat):Int))=true:=qB (by omega);have U:IntKind.i64.wrap (((j+1:Nat):Int)-1)=(j:Int):=(by rw[qy _ ⟨by omega,by omega⟩];omega);have V:(j:Int)<((j+1:Nat):Int):=(by omega);by_cases p:m=0
    ·subst p;have K:=qQ ((a rfl).symm.trans r.out);have S:=fun W=>N.out j (j+1) (by omega) W
     clear b a;go_wp2;exact⟨⟨j,by omega,rfl,K.out,trivial⟩,by simp⟩
    ·obtain⟨z,B⟩:=t.out (j+1) (by rw[<-r.out,b p]);have X:(((m:Nat):Int)==0)=false:=qg.2 (by omega);have Y:(m==0)=false:=qg.2 p;have H:=qQ z;have I:=qQ B;clear b a z B p;go_wp2;go_ret;exact⟨_,_,_,rfl,H.out,I.out,rfl⟩
def bf(w:World)(g:Nat)(L:LvL)(wr:World):Prop:=∃M,js wr w.1.size (.slice (some ⟨g,0,none⟩) 5 5) M/\gN wr w.1.size M/\pA M/\lvl M=L/\L.length=5/\Below w.1.size w wr
theorem bD.rows{w wr:World}{g:Nat}{R:LvL}(h:bD w g 5 R R.length wr)(i:R.length<=5):bf w g (ke R) wr:=by
 obtain⟨M,a,b,c,d,f⟩:=h;exact⟨M,a,b,c,d.trans (qQR R),pY i,f⟩
theorem bf.at_{w wr:World}{g k:Nat}{L:LvL}(h:bf w g L wr)(m:k<5):∃A c,wr.cell? ⟨g,k,none⟩=some (.slice A (L.getD k []).length c)/\wr.frozen? ⟨g,k,none⟩=false/\jd wr w.1.size (.slice A (L.getD k []).length c) (L.getD k []):=by
 obtain⟨M,f,i,j,rfl,d,l⟩:=h;rw[bX]at d;obtain⟨y,b⟩:∃y,M[k]? = some y:=⟨_,qD (by omega)⟩
 obtain⟨c1,c2⟩:=js.cell f d.symm b;have a:=i y (qM b);obtain⟨A,c,e⟩:=a.slice;rw[e]at c1 a;rw[Qi b];exact⟨A,c,c1,c2,a⟩
theorem bf.drop{w wr:World}{g k:Nat}{L:LvL}(h:bf w g L wr)(r:k<5):bf w g (L.set k []) (wr.setCell ⟨g,k,none⟩ (.slice none 0 0)):=by
 obtain⟨M,b,i,l,rfl,c,m⟩:=h;rw[bX]at c;obtain⟨f,e,d,o,-⟩:=js.some_ b (by omega);obtain rfl:g=f:=by cases e;rfl
 refine⟨M.set k oT,js.put b c.symm oT,fun y a=>?_,l.set fun q n j y p a s=>(by cases n),sM _ _ _,by rw[List.length_set,bX,c],m.setCell d _⟩;rcases List.mem_or_eq_of_mem_set a with a|rfl
 ·exact jd.x9 (i y a) b
 ·exact jd.nil _ _
theorem bf.put{w wr:World}{g k:Nat}{L:LvL}(h:bf w g L wr)(hk:k<5)(hl:(L.getD k []).length<=100000)(x:Int)(ty:TypeId):
  ∃t m c0 A c w2,wr.cell? ⟨g,k,none⟩=some (.slice t m c0)/\(Builtin.append_ #[37,37] ty #[.slice t m c0,.slice (some ⟨wr.1.size,0,none⟩) 1 1]).run prog (wr.alloc (.cells #[x] 3))=.ok (.slice A (m+1) c) w2 /\
   (∃u,w2.cell? ⟨g,k,none⟩=some u)/\w2.frozen? ⟨g,k,none⟩=false/\bf w g (ud L k x) (w2.setCell ⟨g,k,none⟩ (.slice A (m+1) c)):=by
 obtain⟨M,J,K,N,rfl,r,C⟩:=h;rw[bX]at r;obtain⟨y,n⟩:∃y,M[k]? = some y:=⟨_,qD (by omega)⟩
 obtain⟨c1,c2⟩:=js.cell J r.symm n;have O:=K y (qM n);obtain⟨t,c0,e⟩:=O.slice;rw[Qi n]at hl;have o:=(qU wr.1.size wr).alloc (qK _) (.cells #[x] 3);have S:=jd.below O o (qK _);obtain⟨A,c,w2,H,P,I,a⟩:=Qa (m:=[x]) S (KB wr x) (by simp;omega) (qR C.size o.size) ty;have B:=js.grown (js.below J o (qK _)) S I
 have aa:∀z∈M,z.v.ownBlock≠y.v.ownBlock∨z.v.ownBlock=none->jd w2 w.1.size z.v z.l:=fun z p d =>
  bw (jd.below (K z p) o (qK _)) (F:=y.v.ownBlock.toList) (jH.grown (jH.refl _ _) I (fun q s=>qX (by rw[s];simp))) (fun b G hm=>by
   rcases d with d|d
   ·exact d (by rw[G];have:y.v.ownBlock=some b:=(by simpa using hm);rw[this])
   ·rw[G]at d;cases d)
 obtain⟨g',X,Y,Q,-⟩:=js.some_ J (by omega);obtain rfl:g=g':=by cases X;rfl
 obtain⟨V,W⟩:=js.cell B r.symm n;have ac:y.l.length+[x].length=y.l.length+1:=rfl;rw[ac]at H P a;rw[e]at c1 H;have ab:Below w.1.size w w2:=(C.alloc C.size _).trans (sI I (qR C.size o.size) (fun q s=>(jd.block O q s).1));refine⟨t,y.l.length,c0,A,c,w2,c1,H,⟨_,V⟩,W,M.set k ⟨.slice A (y.l.length+1) c,y.l++[x]⟩,js.put B r.symm _,fun z p=>?_,N.set fun q s j z hj p U=>?_, ?_,by rw[Qt,bX,r],ab.setCell Y _⟩
 ·obtain⟨i,f⟩:=qd p;rw[List.getElem?_set]at f;split at f
  ·split at f
   ·obtain rfl:(⟨.slice A (y.l.length+1) c,y.l++[x]⟩:LvS)=z:=(by simpa using f);exact jd.x9 P B
   ·cases f
  ·rename_i d;refine jd.x9 (aa z (qM f) ?_) B;cases G:z.v.ownBlock with
   | none=>exact qY rfl
   | some b=>exact qX (fun Q=>N i k z y f n (fun Z=>d Z.symm) b G Q.symm)
 ·have T:(Value.slice A (y.l.length+1) c).ownBlock=some q:=s;rcases a with a|a
  ·rw[T]at a;exact N j k z y p n hj q U a.symm
  ·rw[T]at a;have b1:=(jd.block (K z (qM p)) q U).2;have:q=(wr.alloc (.cells #[x] 3)).1.size:=(by injection a);have:=o.size;omega
 ·rw[sM];unfold ud;rw[Qi n]
theorem bf.row{w wr:World}{g:Nat}{L:LvL}(h:bf w g L wr):∃M,js wr w.1.size (.slice (some ⟨g,0,none⟩) 5 5) M/\gN wr w.1.size M/\5=M.length/\lvl M=L/\Below w.1.size w wr:=by
 obtain⟨M,a,b,f,rfl,c,d⟩:=h;exact⟨M,a,b,by rw[<-bX,c],rfl,d⟩
theorem bf.trimmed{w wr:World}{g:Nat}{L:LvL}(h:bf w g L wr):Calls prog 118 #[.slice (some ⟨g,0,none⟩) 5 5] wr fun e w'=>∃A c,e=.returned (.slice A (kO L).length c)/\vw w' w.1.size (.slice A (kO L).length c) (kO L)/\Below w.1.size w w':=by
 obtain⟨M,a,b,d,rfl,f⟩:=h.row;refine(qQ6 _ 5 5 _ M wr a b d (by omega)).mono ?_;rintro e w'⟨A,t,c,rfl,rfl,i,rfl⟩;exact⟨A,c,rfl,i,f⟩
def nC(w:World)(R:LvL)(k:Int)(e:Ending)(w':World):Prop:=∃A c,e=.returned (.tuple #[.slice A (kU R k).length c,.int .i64 (vV R k)])/\jd w' w.1.size (.slice A (kU R k).length c) (kU R k)/\Below w.1.size w w'
def dW(w:World)(T:LvL)(E:Int)(e:Ending)(w':World):Prop:=∃A c,e=.returned (.tuple #[.slice A T.length c,E])/\vw w' w.1.size (.slice A T.length c) T/\Below w.1.size w w'
theorem BC{R:LvL}{k:Int}(h:yR R=false∨k<0∨4<k):vV R k=2/\kU R k=[]:=by
 have e:vV R k=2:=by unfold vV;rw[qV h]
 exact⟨e,by unfold kU;rw[e];rfl⟩
theorem BD{R:LvL}{k:Int}(a:yR R=true)(b:0<=k)(c:k<=4)(h:(ke R).getD k.toNat []=[]):vV R k=4/\kU R k=[]:=by
 have e:vV R k=4:=by
  unfold vV;rw[qZ (by rintro (e|e|e);rw[a]at e;cases e;omega;omega),qV h]
 exact⟨e,by unfold kU;rw[e];rfl⟩
theorem qQ7{R:LvL}{k:Int}{x:List Int}(b:yR R=true)(c:0<=k)(d:k<=4)(h:(ke R).getD k.toNat []=x)(a:x≠[]):vV R k=0/\kU R k=x:=by
 have e:vV R k=0:=by
  unfold vV;rw[qZ (by rintro (e|e|e);rw[b]at e;cases e;omega;omega),qZ (by rw[h];exact a)]
 exact⟨e,by unfold kU;rw[qV e,h]⟩
theorem QO{w:World}{R:LvL}{k E:Int}(h:vV R k=E/\kU R k=[]):Hid (∀w',Below w.1.size w w'->nC w R k (.returned (.tuple #[.slice none 0 0,E])) w'):=qQ fun w' a=>by
 unfold nC;rw[h.1,h.2];exact⟨none,0,rfl,jd.nil _ _,a⟩
theorem qQ8{w:World}{R:LvL}{k:Int}{x:List Int}(h:vV R k=0/\kU R k=x):Hid (∀A c w',jd w' w.1.size (.slice A x.length c) x->Below w.1.size w w'->nC w R k (.returned (.tuple #[.slice A x.length c,.int .i64 0])) w'):=qQ fun A c w' b a=>by
 unfold nC;rw[h.1,h.2];exact⟨A,c,rfl,b,a⟩
theorem rI{w:World}{T:LvL}{E E':Int}(a:E=E')(b:T=[]):Hid (∀w',Below w.1.size w w'->dW w T E (.returned (.tuple #[.slice none 0 0,E'])) w'):=qQ fun w' c=>by
 subst a b;exact⟨none,0,rfl,vw.nil _ _,c⟩
theorem BE{R:LvL}{n:Int}(h:yR R=false∨n<0∨n∈R.flatten):vo R n=2/\kI R n=[]:=by
 have e:vo R n=2:=by unfold vo;rw[qV h]
 exact⟨e,by unfold kI;rw[e];rfl⟩
theorem qQ9{R:LvL}{n:Int}(a:yR R=true)(c:0<=n)(b:n ∉ R.flatten)(h:R.flatten.length=40):vo R n=60/\kI R n=[]:=by
 have e:vo R n=60:=by
  unfold vo;rw[qZ (by rintro (e|e|e);rw[a]at e;cases e;omega;exact b e),qV h]
 exact⟨e,by unfold kI;rw[e];rfl⟩
theorem qQq{R:LvL}{n:Int}(a:yR R=true)(c:0<=n)(b:n ∉ R.flatten)(h:R.flatten.length≠40):vo R n=0/\kI R n=kO (ud (ke R) 0 n):=by
 have e:vo R n=0:=by
  unfold vo;rw[qZ (by rintro (e|e|e);rw[a]at e;cases e;omega;exact b e),qZ h]
 exact⟨e,by unfold kI;rw[qV e]⟩
theorem qQx{R:LvL}{k n:Int}(h:vV R k≠0):yA R k n=vV R k/\kq R k n=[]:=by
 have e:yA R k n=vV R k:=by unfold yA;rw[qV h]
 exact⟨e,by unfold kq;rw[qZ (by rw[e];exact h)]⟩
theorem qQz{R:LvL}{k n:Int}(h:vV R k=0)(a:n<0∨n∈R.flatten):yA R k n=2/\kq R k n=[]:=by
 have e:yA R k n=2:=by unfold yA;rw[qZ (by rw[h];exact fun h=>h rfl),qV a]
 exact⟨e,by unfold kq;rw[e];rfl⟩
theorem qQj{R:LvL}{k n:Int}(h:vV R k=0)(b:0<=n)(a:n ∉ R.flatten):yA R k n=0/\kq R k n=kO (ud ((ke R).set k.toNat []) (toL k.toNat) n):=by
 have e:yA R k n=0:=by unfold yA;rw[qZ (by rw[h];exact fun h=>h rfl),qZ (by rintro (e|e);omega;exact a e)]
 exact⟨e,by unfold kq;rw[qV e]⟩
theorem qQk{R:LvL}(h:yR R=true):R.length<=5/\R.flatten.length<=40:=⟨(of_decide_eq_true h).1,(of_decide_eq_true h).2.1⟩
theorem BF(v:Value)(R:LvL)(k:Int)(w:World)(h:kh w v R)(q:R.flatten.length<=100000)(o:R.length<=100000):
  Calls prog 70 #[v,k] w (nC w R k):=by
 have g:=qQ (JS v R w h q o);cases f:yR R with
 | false =>
   have d:=QO (w:=w) (BC (R:=R) (k:=k) (qX f));rw[f]at g;clear h q o f;go_enter func70,ntmps70;go_wp2_with fail;refine KG g.out fun w' a=>?_;have c:=qQ a;clear a;go_wp2;go_ret2;exact d.out _ c.out
 | true =>
   rw[f]at g;by_cases s:k<0∨4<k
   ·have d:=QO (w:=w) (BC (R:=R) (k:=k) (qY s));clear h q o f;have F:(k<0)∨(¬k<0/\5<=k):=(by omega);clear s;rcases F with F|⟨F,ab⟩
    ·go_enter func70,ntmps70;go_wp2_with fail;refine KG g.out fun w' a=>?_;have c:=qQ a;clear a;go_wp2;go_ret2;exact d.out _ c.out
    ·go_enter func70,ntmps70;go_wp2_with fail;refine KG g.out fun w' a=>?_;have c:=qQ a;clear a;go_wp2;go_ret2;exact d.out _ c.out
   ·obtain⟨j,rfl⟩:∃j:Nat,k=(j:Nat):=⟨k.toNat,by omega⟩
    have hj:j<=4:=(by omega);have i:(ke R).getD ((j:Nat):Int).toNat []=R.getD j []:=(by rw[qm,lI]);have q1:decide (((j:Nat):Int)<0)=false:=qA (by omega);have q2:decide ((5:Int)<=((j:Nat):Int))=false:=qA (by omega);have q3:¬(5:Int)<=((j:Nat):Int):=(by omega);obtain⟨A,off,aa,rfl,-,z⟩:=h.form;rcases qh j R.length with T|J
    ·obtain⟨x,t⟩:∃x,R[j]? = some x:=⟨_,qD T⟩
     obtain⟨b,u,rfl,a,c1,r⟩:=z j x t;have U:=oS t;have C:R.getD j []=x:=(by rw[qj,t];rfl);rw[C]at i;have X:decide (((R.length:Nat):Int)<=((j:Nat):Int))=false:=qA (by omega);have Y:decide (R.length<=j)=false:=qA (by omega);have q6:((j:Nat):Int)<((R.length:Nat):Int):=(by omega);by_cases y:x=[]
     ·subst y;have d:=QO (w:=w) (BD (k:=(j:Nat)) f (by omega) (by omega) i);obtain⟨N,V,c2,rfl,-,-⟩:=r.form;have q7:((([]:List Int).length:Nat):Int)=0:=rfl;clear h q o f z t r C i U s;generalize R.length=n at*;go_enter func70,ntmps70;go_wp2_with fail;refine KG g.out fun w' l=>?_;have c:=qQ l;have G:=(l.cell (p:=⟨b,off+j,none⟩) a).trans c1;rw[List.length_nil]at G;clear l c1;go_wp2;go_ret2;exact d.out _ c.out
     ·have d:=qQ8 (w:=w) (qQ7 (k:=(j:Nat)) f (by omega) (by omega) i y);have B:=qQ (fun W (S:Below w.1.size w W)=>Qe u x W (r.below S (qK _)) (by omega));have M:=List.length_pos_iff.2 y;obtain⟨N,V,c2,rfl,-,-⟩:=r.form;unfold bQ at B;clear h q o f z t r C i s y;generalize R.length=n at*;obtain⟨m,L⟩:∃m,m=x.length:=⟨_,rfl⟩
      rw[<-L]at d B M c1;have q8:(((m:Nat):Int)==0)=false:=qg.2 (by omega);have q9:(m==0)=false:=qg.2 (by omega);clear L M;go_enter func70,ntmps70;go_wp2_with fail;refine KG g.out fun w' l=>?_;have c:=qQ l;have G:=(l.cell (p:=⟨b,off+j,none⟩) a).trans c1;clear l c1;go_wp2_with fail;refine(B.out _ c.out).mono ?_;rintro e Z⟨O,Q,rfl,H,I⟩;have P:=qQ (d.out O Q Z (jd.down H c.out.size) (bj c.out I));clear H I;go_wp2;go_ret2;exact P.out
    ·have K:R.getD j []=[]:=(by rw[qj,xX J];rfl);rw[K]at i;have d:=QO (w:=w) (BD (k:=(j:Nat)) f (by omega) (by omega) i);have X:decide (((R.length:Nat):Int)<=((j:Nat):Int))=true:=qB (by omega);have Y:decide (R.length<=j)=true:=qB J;clear h q o f z K i s;generalize R.length=n at*;go_enter func70,ntmps70;go_wp2_with fail;refine KG g.out fun w' a=>?_;have c:=qQ a;clear a;go_wp2;go_ret2;exact d.out _ c.out
theorem qQv(v:Value)(R:LvL)(n:Int)(w:World)(h:kh w v R)(i:R.flatten.length<=100000)(q:R.length<=100000):
  Calls prog 68 #[v,n] w (dW w (kI R n) (vo R n)):=by
 have t:=qQ (JS v R w h i q);have s:=qQ (fun W (B:Below w.1.size w W)=>Gi v R n W (h.below B (qK _)) i q);have r:=qQ (fun W (B:Below w.1.size w W)=>mY v R W (h.below B (qK _)) i q);cases f:yR R with
 | false =>
   obtain⟨b,c⟩:=BE (R:=R) (n:=n) (qX f);have A:=rI (w:=w) b c;rw[f]at t;clear h i q f b c s r;generalize kI R n=T at*;generalize vo R n=E at*;go_enter func68,ntmps68;go_wp2_with fail;refine KG t.out fun w' a=>?_;have d:=qQ a;clear a;go_wp2;go_ret2;exact A.out _ d.out
 | true =>
   rw[f]at t;by_cases j:n<0∨n∈R.flatten
   ·obtain⟨b,c⟩:=BE (R:=R) (n:=n) (qY j);have A:=rI (w:=w) b c
    have o:(decide (0<=n)&&!decide (n∈R.flatten))=false:=by
     rcases j with j|j
     ·rw[qA (by omega:¬0<=n)];rfl
     ·rw[qB j];simp
    rw[o]at s;clear h i q f b c r j o;generalize kI R n=T at*;generalize vo R n=E at*;go_enter func68,ntmps68;go_wp2_with fail;refine KG t.out fun w' a=>?_;have d:=qQ a;clear a;go_wp2_with fail;refine(s.out _ d.out).mono ?_;rintro e Q⟨rfl,a⟩;have p:=qQ (bj d.out a);clear a;go_wp2;go_ret2;exact A.out _ p.out
   ·have C:0<=n:=(by omega);have F:n ∉ R.flatten:=fun e=>j (qY e)
    have o:(decide (0<=n)&&!decide (n∈R.flatten))=true:=(by rw[qB C,qA F];rfl);rw[o]at s;unfold bQ at r;by_cases y:R.flatten.length=40
    ·obtain⟨b,c⟩:=qQ9 f C F y;have A:=rI (w:=w) b c;rw[y]at r;clear h i q f b c j o C F y;generalize kI R n=T at*;generalize vo R n=E at*;go_enter func68,ntmps68;go_wp2_with fail;refine KG t.out fun w' a=>?_;have d:=qQ a;clear a;go_wp2_with fail;refine(s.out _ d.out).mono ?_;rintro e Q⟨rfl,a⟩;have p:=qQ (bj d.out a);clear a;go_wp2_with fail;refine(r.out _ p.out).mono ?_;rintro e w3⟨S,c3,rfl,-,a⟩;have z:=qQ (bj p.out a);clear a;go_wp2;go_ret2;exact A.out _ z.out
    ·obtain⟨b,c⟩:=qQq f C F y;obtain⟨G,ad⟩:=qQk f;have I:=qQ (fun W (B:Below w.1.size w W)=>BU v R W (h.below B (qK _)) i G);have ab:=qQ (fun W W' g (o:bD W g 5 R R.length W')=>o.rows G)
     have ac:=qQ (show((ke R).getD 0 []).length<=100000 by
      rw[lI,qj];cases hx:R[0]? with
      | none=>exact qI _
      | some x=>have:=oS hx;exact qR this i)
     have q1:(((R.flatten.length:Nat):Int)==40)=false:=qg.2 (by omega);have q2:(R.flatten.length==40)=false:=qg.2 y;have Y:=qQ b;have Z:=qQ c;unfold QN at I;clear h i q f b c j o C F y G ad;generalize R.flatten=l at*;generalize l.length=m at*;generalize kI R n=T at*;generalize vo R n=E at*;go_enter func68,ntmps68;go_wp2_with fail;refine KG t.out fun w' a=>?_;have d:=qQ a;clear a;go_wp2_with fail;refine(s.out _ d.out).mono ?_;rintro e Q⟨rfl,a⟩;have p:=qQ (bj d.out a);clear a;go_wp2_with fail;refine(r.out _ p.out).mono ?_;rintro e w3⟨S,c3,rfl,-,a⟩;have z:=qQ (bj p.out a);clear a;go_wp2_with fail;refine(I.out _ z.out).mono ?_;rintro e w4⟨g,rfl,P⟩;obtain⟨A0,m0,c0,A4,c4,w5,a1,K,⟨u,a3⟩,a4,L⟩:=(ab.out _ _ _ P).put (k:=0) (by omega) ac.out n 37;have J:=qQ L.trimmed;have V:=qQ K;rw[<-Z.out]at J;clear P K L;go_wp2_with (first|(at_builtin;refine yK rfl _ _ rfl rfl rfl V.out ?_)|fail);refine J.out.mono ?_;rintro e w6⟨H,M,rfl,N,O⟩;have U:=qQ (N.down z.out.size);have X:=qQ (bj z.out O);have aa:=qQ (show dW w T E (.returned (.tuple #[.slice H T.length M,.int .i64 0])) w6 from⟨H,M,by rw[Y.out],U.out,X.out⟩);clear N O;go_wp2;go_ret2;exact aa.out
theorem qQy{R:LvL}(h:R.flatten.length<=100000)(k:Nat):(R.getD k []).length<=100000:=by
 rw[qj];cases a:R[k]? with
 | none=>exact qI _
 | some x=>have:=oS a;exact qR this h
theorem qQu{R:LvL}(h:∀k,(R.getD k []).length<=100000)(i k:Nat):((R.set i []).getD k []).length<=100000:=by
 rw[qj,List.getElem?_set];split
 ·split
  ·exact qI _
  ·exact qI _
 ·have:=h k
  rwa [qj]at this
theorem rN{R:LvL}{n:Int}{W wr:World}{g:Nat}(s:∀i k,(((ke R).set i []).getD k []).length<=100000)(h:bf W g (ke R) wr)(i t:Nat)(hi:i<5)(y:t<5):
  ∃u0 c a c0 d f b u,wr.cell? ⟨g,i,none⟩=some u0/\wr.frozen? ⟨g,i,none⟩=false/\(wr.setCell ⟨g,i,none⟩ (.slice none 0 0)).cell? ⟨g,t,none⟩=some (.slice c a c0) /\
   (Builtin.append_ #[37,37] 37 #[.slice c a c0,.slice (some ⟨wr.1.size,0,none⟩) 1 1]).run prog ((wr.setCell ⟨g,i,none⟩ (.slice none 0 0)).alloc (.cells #[n] 3))=.ok (.slice d (a+1) f) b /\
   b.cell? ⟨g,t,none⟩=some u/\b.frozen? ⟨g,t,none⟩=false/\bf W g (ud ((ke R).set i []) t n) (b.setCell ⟨g,t,none⟩ (.slice d (a+1) f)):=by
 obtain⟨A,B,q,r,-⟩:=h.at_ (k:=i) hi;obtain⟨c,a,c0,d,f,b,l,j,⟨u,m⟩,o,p⟩:=(h.drop (k:=i) hi).put (k:=t) y (s _ _) n 37;have z:(wr.setCell ⟨g,i,none⟩ (.slice none 0 0)).1.size=wr.1.size:=by simp[World.setCell]
 rw[z]at j;exact⟨_,c,a,c0,d,f,b,u,q,r,l,j,m,o,p⟩
theorem qQg(v:Value)(R:LvL)(k n:Int)(w:World)(h:kh w v R)(o:R.flatten.length<=100000)(A:R.length<=100000):
  Calls prog 73 #[v,.int .i64 k,n] w (dW w (kq R k n) (yA R k n)):=by
 have z:=qQ (BF v R k w h o A);have y:=qQ (fun W (C:Below w.1.size w W)=>Gi v R n W (h.below C (qK _)) o A);unfold nC at z;by_cases b:vV R k=0
 ·rw[b]at z;by_cases f:n<0∨n∈R.flatten
  ·obtain⟨c,d⟩:=qQz b f;have B:=rI (w:=w) c d
   have l:(decide (0<=n)&&!decide (n∈R.flatten))=false:=by
    rcases f with f|f
    ·rw[qA (by omega:¬0<=n)];rfl
    ·rw[qB f];simp
   rw[l]at y;clear h o A c d f l b;generalize kq R k n=T at*;generalize yA R k n=E at*;generalize kU R k=x at*;generalize x.length=m at*;go_enter func73,ntmps73;go_wp2_with fail;refine z.out.mono ?_;rintro e U⟨I,c1,rfl,-,a⟩;have j:=qQ a;clear a;go_wp2_with fail;refine KG (y.out _ j.out) fun w2 a=>?_;have s:=qQ (bj j.out a);clear a;go_wp2;go_ret2;exact B.out _ s.out
  ·have G:0<=n:=(by omega);have H:n ∉ R.flatten:=fun e=>f (qY e)
   have l:(decide (0<=n)&&!decide (n∈R.flatten))=true:=(by rw[qB G,qA H];rfl);rw[l]at y;obtain⟨c,d⟩:=qQj b G H;obtain⟨F,aa,ab,-,-⟩:=pG b;have K:=qQ (fun W (C:Below w.1.size w W)=>BU v R W (h.below C (qK _)) o F.1);have Z:=qQ (fun W W' g (l:bD W g 5 R R.length W')=>l.rows F.1);have t:=qQ (fun i k=>qQu (R:=ke R) (fun k=>by rw[lI];exact qQy o k) i k);have X:=qQ c;have p:=qQ d;unfold QN at K;clear h o A c d f l b F G H;generalize kq R k n=T at*;generalize yA R k n=E at*;generalize kU R k=x at*;generalize x.length=m at*;have hk:k=0∨k=1∨k=2∨k=3∨k=4:=(by omega);clear aa ab;have m1:min (1:Int) 4=1:=(by decide);have m2:min (2:Int) 4=2:=(by decide);have m3:min (3:Int) 4=3:=(by decide);have m4:min (4:Int) 4=4:=(by decide);have m5:min (5:Int) 4=4:=(by decide);rcases hk with rfl|rfl|rfl|rfl|rfl
   case' inl =>
    have q:=qQ (show T=kO (ud ((ke R).set 0 []) 1 n) from p.out);have r:=qQ (fun W wr g h=>rN (R:=R) (n:=n) (W:=W) (wr:=wr) (g:=g) t.out h 0 1 (by omega) (by omega))
   case' inr.inl =>
    have q:=qQ (show T=kO (ud ((ke R).set 1 []) 2 n) from p.out);have r:=qQ (fun W wr g h=>rN (R:=R) (n:=n) (W:=W) (wr:=wr) (g:=g) t.out h 1 2 (by omega) (by omega))
   case' inr.inr.inl =>
    have q:=qQ (show T=kO (ud ((ke R).set 2 []) 3 n) from p.out);have r:=qQ (fun W wr g h=>rN (R:=R) (n:=n) (W:=W) (wr:=wr) (g:=g) t.out h 2 3 (by omega) (by omega))
   case' inr.inr.inr.inl =>
    have q:=qQ (show T=kO (ud ((ke R).set 3 []) 4 n) from p.out);have r:=qQ (fun W wr g h=>rN (R:=R) (n:=n) (W:=W) (wr:=wr) (g:=g) t.out h 3 4 (by omega) (by omega))
   case' inr.inr.inr.inr =>
    have q:=qQ (show T=kO (ud ((ke R).set 4 []) 4 n) from p.out);have r:=qQ (fun W wr g h=>rN (R:=R) (n:=n) (W:=W) (wr:=wr) (g:=g) t.out h 4 4 (by omega) (by omega))
   all_goals
    clear p;go_enter func73,ntmps73;go_wp2_with fail;refine z.out.mono ?_;rintro e U⟨I,c1,rfl,-,a⟩;have j:=qQ a;clear a;go_wp2_with fail;refine KG (y.out _ j.out) fun w2 a=>?_;have s:=qQ (bj j.out a);clear a;go_wp2_with fail;refine(K.out _ s.out).mono ?_;rintro e w3⟨g,rfl,S⟩;obtain⟨u0,A0,m0,c0,A4,c4,w5,u,b1,b2,a1,M,a3,a4,N⟩:=r.out _ _ _ (Z.out _ _ _ S);clear S r;have L:=qQ N.trimmed;rw[<-q.out]at L;have V:=qQ M;clear M N q;go_wp2_with (first|(at_builtin;refine yK rfl _ _ rfl rfl rfl V.out ?_)|fail);refine L.out.mono ?_;rintro e w6⟨J,O,rfl,P,Q⟩;have Y:=qQ (show dW w T E (.returned (.tuple #[.slice J T.length O,.int .i64 0])) w6 from⟨J,O,by rw[X.out],P.down s.out.size,bj s.out Q⟩);clear P Q;go_wp2;go_ret2;exact Y.out
 ·obtain⟨c,d⟩:=qQx (n:=n) b;have B:=rI (w:=w) c d;have q1:(vV R k != 0)=true:=by simp[b]
  have q2:(vV R k==0)=false:=by simp[b]
  clear h o A c d b y;generalize kq R k n=T at*;generalize yA R k n=E at*;generalize vV R k=E' at*;generalize kU R k=x at*;generalize x.length=m at*;go_enter func73,ntmps73;go_wp2_with fail;refine z.out.mono ?_;rintro e U⟨I,c1,rfl,-,a⟩;have j:=qQ a;clear a;go_wp2;go_ret2;exact B.out _ j.out
end
end Go.Proofs.YthejglbnkmimjaaGreat

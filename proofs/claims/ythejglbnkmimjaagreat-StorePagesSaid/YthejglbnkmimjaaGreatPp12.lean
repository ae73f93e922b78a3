import Derived.Test.YthejglbnkmimjaaGreatPp11
import Derived.Lib.OwnBridge
import Derived.Lib.AppendZeros
import Derived.Test.YthejglbnkmimjaaGreatPp04
set_option linter.unusedVariables false
set_option maxRecDepth 100000
set_option maxHeartbeats 9000000
namespace Go.Proofs.YthejglbnkmimjaaGreat
open Proofs.Tryz
section
open Go.RowKit Go.Shelf
def Bd(l:List Int)(x:Int)(w:World)(e:Ending)(w':World):Prop:=(∃k:Int,e=.returned (.int .i64 k)/\decide (0<=k)=decide (x∈l))/\w'=w
theorem qQw(v:Value)(l:List Int)(x:Int)(w:World)(h:kN w v l)(C:l.length<=1000000):Calls prog 184 #[v,x] w (Bd l x w):=by
 obtain⟨A,off,G,rfl,-,r⟩:=h.form;have z:=qQ r;obtain⟨n,f⟩:∃n,n=l.length:=⟨_,rfl⟩
 have m:=qQ f;rw[<-f]at C ⊢;clear h r f;go_enter func184,ntmps184;go_wp2;go_loopw [8] (fun i wr=>∃k:Nat,k<=n/\i=.int .i64 k/\x ∉ l.take k/\wr=w) (fun i _=>n-(intOf i).toNat)
 case atStart=>exact⟨0,qI _,rfl,by simp,rfl⟩
 case round =>
  obtain⟨k,I,rfl,u,rfl⟩:=hrel;have o:=qQ u;clear u;by_cases t:k<n
  ·have F:(k:Int)<(n:Int):=(by omega);obtain⟨y,j⟩:∃y,l[k]? = some y:=⟨_,qE (by rw[<-m.out];exact t)⟩
   obtain⟨b,rfl,H,c1⟩:=z.out k y j;have q:=qQ j;clear j;by_cases c:x=y
   ·subst c;have e:(x==x)=true:=(by simp);have d:=qQ (qN q.out);go_wp2;go_ret;exact⟨⟨_,rfl,by rw[qB d.out];exact qB (by omega)⟩,rfl⟩
   ·have e:(x==y)=false:=qg.2 c;have B:=qQ c;clear c;go_wp2;refine⟨⟨k+1,by omega,by go_num, ?_,trivial⟩,by simp[intOf];omega⟩;rw[xQ,q.out];intro a;rcases qD.1 a with a|a
    ·exact o.out a
    ·exact B.out (by simpa using a)
  ·obtain rfl:k=n:=(by omega);have F:¬(k:Int)<(k:Int):=(by omega);have d:=qQ (show x ∉ l by have h:=o.out;rwa [m.out,List.take_length]at h);clear t;go_wp2;go_ret;exact⟨⟨-1,rfl,by rw[qA d.out];rfl⟩,rfl⟩
theorem Qx(v:Value)(l:List Int)(x:Int)(w:World)(h:kN w v l)(b:l.length<=1000000):Calls prog 120 #[v,x] w fun e w'=>e=.returned (.bool (decide (x∈l)))/\w'=w:=by
 have H:=qQ (qQw v l x w h b);clear h b;unfold Bd at H;generalize decide (x∈l)=q at*;go_enter func120,ntmps120;go_wp2_with fail;refine H.out.mono ?_;rintro e w'⟨⟨k,rfl,a⟩,rfl⟩;have c:=qQ a;clear a;go_wp2;go_ret;exact⟨by rw[<-c.out];rfl,rfl⟩
theorem Bl(n:Nat):(Builtin.zeroCells (Value.int .i64 0).cells n).size=n:=by
 unfold Builtin.zeroCells;rw[Array.size_map,Array.size_range];exact Nat.mul_one n
theorem qXQ(n:Nat)(w:World)(C:n<=1000000):Calls prog 56 #[.slice none 0 0,n] w fun e w'=>∃A c,e=.returned (.slice A 0 c)/\jy w' w.1.size (.slice A 0 c) []/\Below w.1.size w w':=by
 by_cases b:n=0
 ·subst b;go_enter func56,ntmps56;go_wp2;go_ret;exact⟨none,0,rfl,jy.nil _ _,qG _ _⟩
 ·obtain⟨B,j,m,o,q⟩:=info_parts sn;have a:=Lib.run_append_nil_zeros (P:=prog) w 37 3 37 3 B _ .i64 .i64 Tryz.underlying37 Tryz.underlying3 j m n (by omega) (by rw[o];decide) (by omega) (by rw[q];omega);have y:=grownCap_ge w n 0 3;have f:=grownCap_le_maxLen w n 0 3 (by unfold maxLen;omega);generalize grownCap w n 0 3=c at*;generalize i:Builtin.zeroCells (Value.int .i64 0).cells n++Builtin.zeroCells (Value.int .i64 0).cells (c-n)=cs at*;have l:cs.size=c*1:=by rw[<-i,Array.size_append,Bl,Bl];omega
  have d:Below w.1.size w (w.drew.alloc (.cells cs 3)):=(qG w.1.size w).drew.alloc (qK _) _
  have k:jy (w.drew.alloc (.cells cs 3)) w.1.size (.slice (some ⟨w.1.size,0,none⟩) 0 c) [] :=
   ⟨rfl,qY ⟨w.1.size,c,cs,rfl,qK _,jN.new w.drew 3 cs,qI _,f,l,rfl⟩⟩
  have F:∀W,(Instr.slice 37 (.slice (some ⟨w.1.size,0,none⟩) n c) none (some (.int .i64 0)) none).run prog W=.ok (.slice (some ⟨w.1.size,0,none⟩) 0 c) W:=fun W=>by
   have z:(sizeOf (prog.elem 37)).run prog W=.ok 1 W:=(by simp[go_sem]);rw[run_slice_h W _ _ _ c Tryz.underlying37 .i64 _ (by omega) (by omega),z];show Result.ok (sliced _ _ _ _ _) W=_;unfold sliced;rw[qZ (by omega)];simp[Addr.add]
  have t:=qQ a;have u:=qQ k;have r:=qQ d;have G:(0:Int)<(n:Int):=by omega
  have H:decide ((n:Int)<0)=false:=qA (by omega);clear a k d l i y f j m o q b;go_enter func56,ntmps56;go_wp2_with (first|(at_builtin;refine yC rfl _ _ rfl rfl rfl t.out ?_)|fail);go_ret;exact⟨_,_,rfl,u.out,r.out⟩
theorem Qz{R:LvL}{k:Nat}{x:List Int}(h:R[k]? = some x):(R.take (k+1)).flatten=(R.take k).flatten++x:=by
 rw[xQ,h,List.flatten_append];simp
theorem Bm(R:LvL)(k:Nat):(R.take k).flatten.length<=R.flatten.length:=by
 conv=>rhs;rw[<-qp k R,List.flatten_append,qL]
 omega
theorem om{R:LvL}{k:Nat}{x:List Int}(h:R[k]? = some x):x.length<=R.flatten.length:=by
 have a:=Bm R (k+1);rw[Qz h,qL]at a;omega
theorem jy.slice{w:World}{base:Nat}{v:Value}{l:List Int}(h:jy w base v l):∃A c,v=.slice A l.length c:=by
 obtain⟨A,c,rfl,-⟩:=vl h;exact⟨A,c,rfl⟩
theorem qXX{w wr:World}{u v:Value}{l m:List Int}(b:jy wr w.1.size u l)(o:kN wr v m)(r:l.length+m.length<=1000000)(a:Below w.1.size w wr)(d:TypeId):
  ∃A c w2,(Builtin.append_ #[37,37] d #[u,v]).run prog wr=.ok (.slice A (l.length+m.length) c) w2/\jy w2 w.1.size (.slice A (l.length+m.length) c) (l++m)/\Below w.1.size w w2:=by
 obtain⟨A,c,w2,f,i,j,-⟩:=XD b o r a.size d;exact⟨A,c,w2,f,i,a.trans (si j a.size (fun k q=>(jy.block b k q).1))⟩
theorem qXZ(v:Value)(R:LvL)(w:World)(h:km w v R)(hl:R.flatten.length<=100000)(hL:R.length<=100000):Calls prog 29 #[v] w (bN w R.flatten):=by
 have B:=qQ (qXQ R.flatten.length w (by omega));have z:=qQ (Bm R);have HH:=qQ h;obtain⟨A,off,ad,rfl,-,O⟩:=h.form;have y:=qQ O;obtain⟨n,t⟩:∃n,n=R.length:=⟨_,rfl⟩
 have q:=qQ t;rw[<-t]at hL ⊢;obtain⟨N,r⟩:∃N,N=R.flatten.length:=⟨_,rfl⟩
 have c:=qQ r;rw[<-r]at hl B;clear h O t r;unfold bN;rw[<-c.out];go_enter func29,ntmps29;go_wp2;go_loopw [3,11] (fun s i wr=>∃k:Nat,k<=n/\i=.int .i64 k/\s=.int .i64 (((R.take k).flatten.length:Nat):Int)/\wr=w) (fun _ i _=>n-(intOf i).toNat)
 case atStart=>exact⟨0,qI _,rfl,rfl,rfl⟩
 case round =>
  obtain⟨k,hk,rfl,rfl,rfl⟩:=hrel;by_cases P:k<n
  ·have l1:(k:Int)<(n:Int):=(by omega);obtain⟨x,a⟩:∃x,R[k]? = some x:=⟨_,qE (by rw[<-q.out];exact P)⟩
   obtain⟨b,u,rfl,J,c1,d⟩:=y.out k x a;obtain⟨S,o2,c2,rfl,-,-⟩:=d.form;have HS:=qQ (show(((R.take (k+1)).flatten.length:Nat):Int)=(((R.take k).flatten.length:Nat):Int)+((x.length:Nat):Int) by rw[Qz a,qL];omega);have ab:=z.out k;have ac:=om a;rw[<-c.out]at ab ac;clear d a;generalize (R.take k).flatten.length=s at*;generalize x.length=m at*;have q1:decide (((s:Int)+(m:Int))<0)=false:=qA (by omega);have q2:IntKind.i64.wrap ((s:Int)+(m:Int))=(s:Int)+(m:Int):=qz _ ⟨by omega,by omega⟩;go_wp2;refine⟨⟨k+1,by omega,by go_num,by rw[HS.out],trivial⟩,by simp[intOf];omega⟩
  ·obtain rfl:k=n:=(by omega);have l1:¬(k:Int)<(k:Int):=(by omega);have I:(R.take k).flatten.length=N:=(by rw[q.out,List.take_length,<-c.out]);rw[I];clear I P;obtain⟨w0,rfl⟩:∃w0,w0=wr:=⟨_,rfl⟩
   go_wp2_with fail;refine B.out.mono ?_;rintro e w1⟨A1,c1,rfl,f,K⟩;have Z:=qQ f;have V:=qQ K;clear f K;go_wp2;go_loopg [6,27] k (fun g u i wr=>∃(j:Nat),j+g=k/\i=.int .i64 j/\jy wr w0.1.size u (R.take j).flatten/\Below w0.1.size w0 wr)
   case atStart=>exact⟨0,by omega,rfl,Z.out,V.out⟩
   case round =>
    obtain⟨j,af,rfl,f,L⟩:=hrel;obtain⟨T,c3,rfl⟩:=f.slice;have l:=qQ f;have o:=qQ L;clear f L;cases gk with
    | zero =>
      obtain rfl:j=k:=(by omega);have s1:¬(j:Int)<(j:Int):=(by omega);have ej:(R.take j)=R:=(by rw[q.out];exact List.take_length);rw[ej]at l ⊢;rw[<-c.out]at l ⊢;go_wp2;go_ret;exact⟨T,c3,rfl,by have h:=l.out;rw[c.out]at h;rw[c.out];exact h,o.out⟩
    | succ gi =>
      have aa:j<k:=(by omega);have s1:(j:Int)<(k:Int):=(by omega);obtain⟨x,a⟩:∃x,R[j]? = some x:=⟨_,qE (by rw[<-q.out];exact aa)⟩
      obtain⟨b,u,rfl,J,C,d⟩:=y.out j x a;have ae:=(o.out.cell (p:=⟨b,off+j,none⟩) J).trans C;have Q:=z.out (j+1);rw[Qz a,qL,<-c.out]at Q;obtain⟨U,c4,w2,F,G,H⟩:=qXX l.out (d.below o.out (qK _)) (by omega) o.out 37;obtain⟨S,o2,c2,rfl,-,-⟩:=d.form;have X:=qQ (show jy w2 w0.1.size (.slice U ((R.take j).flatten.length+x.length) c4) (R.take (j+1)).flatten by rw[Qz a];exact G);have Y:=qQ H;have W:=qQ F;clear F G H C d a Q l;generalize (R.take j).flatten.length=s at*;generalize x.length=m at*;go_wp2_with (first|(at_builtin;refine yC rfl _ _ rfl rfl rfl W.out ?_)|fail);go_roundg gi
      case measure=>omega
      case rel=>exact⟨j+1,by omega,by go_num,X.out,Y.out⟩
theorem qXJ(w:World)(a:Array Obj):Below w.1.size w (Sort.grow w a):=⟨rfl,rfl,rfl,by simp,fun k b=>Sort.heap_grow_old w a b⟩
theorem qXK(w:World)(base n c:Nat)(A:Option Addr)(l:List Int)(h:jy w base (.slice A n c) l)(m:n=l.length)(F:n<=1000000):
  Calls prog 183 #[.slice A n c] w fun e w'=>e=.returned (.tuple #[])/\jy w' base (.slice A n c) (yg l)/\Below base w w':=by
 subst m;by_cases o:(Value.slice A l.length c)=.slice none 0 0
 ·obtain⟨rfl,r,rfl⟩:=Value.slice.inj o;have z:l=[]:=xK.1 r;subst z;refine(AnyM.slices_Sort_int_none Tryz.isort none 0 w).mono ?_;rintro e w'⟨rfl,rfl⟩;exact⟨rfl,by rw[show yg []=[] by(unfold yg;simp)];exact jy.nil _ _,qG _ _⟩
 ·obtain⟨g,C,y,i,j,m,G,-,u⟩:=Lib.holds_of_ownsRow (enc:=Value.int .i64) h o;obtain⟨rfl,-,rfl⟩:=Value.slice.inj y;refine(AnyM.slices_Sort_int Tryz.isort g 0 c l w u j (by omega)).mono ?_;rintro e w'⟨rfl,q,B,rfl⟩;have a:=Lib.ownsRow_putRow (enc:=Value.int .i64) (q:=q) (k:=l.length) (ys:=yg l) h (p7 l) (qK _);rw[qm (by rw[p7];exact qK _)]at a;have f:=Lib.below_putRow (enc:=Value.int .i64) (q:=q) (d:=(yg l).toArray) (qG base w) i;have b:=qXJ (Sort.putRow (Value.int .i64) (Sort.ahead w q) g 0 (yg l).toArray) B;refine⟨rfl, ?_, ?_⟩
  ·have t:jy (Sort.putRow (Value.int .i64) (Sort.ahead w q) g 0 (yg l).toArray) base (.slice (some ⟨g,0,none⟩) l.length c) (yg l):=by
    unfold jy;rw[p7];exact a
   exact jy.below t b (qK _)
  ·exact f.trans (b.mono (qR (qR i (Nat.le_of_lt j)) f.size))
theorem nR(v:Value)(R:LvL)(w:World)(h:km w v R)(f:R.flatten.length<=100000)(d:R.length<=100000):Calls prog 10 #[v] w (bN w R.flatten):=by
 have H:=qQ (qXZ v R w h f d);clear h f d;unfold bN at H ⊢;generalize R.flatten=l at*;go_enter func10,ntmps10;go_wp2_with fail;refine H.out.mono ?_;rintro e w'⟨A,c,rfl,a,b⟩;have i:=qQ a;have j:=qQ b;clear a b;go_wp2;go_ret;exact⟨A,c,rfl,i.out,j.out⟩
theorem Bn(v:Value)(R:LvL)(n:Int)(w:World)(h:km w v R)(m:R.flatten.length<=100000)(i:R.length<=100000):
  Calls prog 116 #[v,n] w (X3 (.bool (decide (0<=n)&&!decide (n∈R.flatten))) w):=by
 have H:=qQ (nR v R w h m i);clear h i;unfold bN at H;generalize R.flatten=l at*;have b:=qQ (fun W A c (o:jy W w.1.size (.slice A l.length c) l)=>Qx (.slice A l.length c) l n W (jy.xH o) (by omega));generalize decide (n∈l)=q at*;by_cases a:0<=n
 ·rw[qB a];go_enter func116,ntmps116;go_wp2_with fail;refine H.out.mono ?_;rintro e w'⟨A,c,rfl,d,f⟩;have j:=qQ (b.out _ _ _ d);have k:=qQ f;clear d f;go_wp2_with fail;refine j.out.mono ?_;rintro e t⟨rfl,rfl⟩;go_wp2;go_ret;exact⟨by simp,k.out⟩
 ·rw[qA a];have r:decide (0<=n)=false:=qA a;clear H b;go_enter func116,ntmps116;go_wp2;go_ret;exact⟨rfl,qG _ _⟩
theorem Br{R:LvL}(h:5<R.length∨40<R.flatten.length):ye R=false:=qA fun a=>by have:=a.1;have:=a.2.1;omega
theorem qXV{R:LvL}(a:R.length<=5)(b:R.flatten.length<=40):ye R=true↔mu (yg R.flatten) R.flatten.length:=by
 have h:=Fk R.flatten;rw[p7]at h;rw[h];exact⟨fun e=>(of_decide_eq_true e).2.2,fun e=>qB ⟨a,b,e.1,e.2⟩⟩
theorem Bt{s:List Int}{k:Nat}{x:Int}(h:mu s k)(a:s[k]? = some x)(d:0<=x)(f:∀j y,k=j+1->s[j]? = some y->x≠y):mu s (k+1):=by
 intro i l;rcases qd i k with c|c
 ·exact h i c
 ·obtain rfl:i=k:=by omega
  refine⟨by rw[qj,a];exact d,fun o=>?_⟩;have m:i<s.length:=(qO.1 a).1;obtain⟨y,b⟩:∃y,s[i-1]? = some y:=⟨_,qE (by omega)⟩
  rw[qj,a,qj,b];exact f (i-1) y (by omega) b
theorem qXY{s:List Int}{k m:Nat}{x:Int}(b:s[k]? = some x)(a:k<m)(c:x<0):¬mu s m:=fun h=>by
 have:=(h k a).1;rw[qj,b]at this;have:0<=x:=this;omega
theorem qXU{s:List Int}{k m:Nat}{x:Int}(b:s[k+1]? = some x)(c:s[k]? = some x)(a:k+1<m):¬mu s m:=fun h=>by
 have:=(h (k+1) a).2 (by omega);rw[qj,b,Nat.add_sub_cancel,qj,c]at this;exact this rfl
theorem Jc(v:Value)(R:LvL)(w:World)(h:km w v R)(u:R.flatten.length<=100000)(f:R.length<=100000):
  Calls prog 115 #[v] w (X3 (.bool (ye R)) w):=by
 have H:=qQ (nR v R w h u f);obtain⟨A0,o0,c0,rfl,-,-⟩:=h.form;unfold bN at H;clear h;by_cases o:5<R.length
 ·rw[Br (qX o)];obtain⟨n,d⟩:∃n,n=R.length:=⟨_,rfl⟩
  rw[<-d]at H o f ⊢;clear d;generalize R.flatten=l at*;have q1:decide ((5:Int)<(n:Int))=true:=qB (by omega);have q2:decide (5<n)=true:=qB o;clear u f;go_enter func115,ntmps115;go_wp2_with fail;refine H.out.mono ?_;rintro e w'⟨A,c,rfl,r,a⟩;have B:=qQ a;clear r a;go_wp2;go_ret;exact⟨rfl,B.out⟩
 ·by_cases t:40<R.flatten.length
  ·rw[Br (qY t)];obtain⟨n,d⟩:∃n,n=R.length:=⟨_,rfl⟩
   rw[<-d]at H o f ⊢;clear d;obtain⟨m,F⟩:∃m,m=R.flatten.length:=⟨_,rfl⟩
   rw[<-F]at H t u;clear F;generalize R.flatten=l at*;have q1:decide ((5:Int)<(n:Int))=false:=qA (by omega);have q2:decide (5<n)=false:=qA (by omega);have q3:decide ((40:Int)<(m:Int))=true:=qB (by omega);have q4:decide (40<m)=true:=qB t;clear u f o t;go_enter func115,ntmps115;go_wp2_with fail;refine H.out.mono ?_;rintro e w'⟨A,c,rfl,r,a⟩;have B:=qQ a;clear r a;go_wp2;go_ret;exact⟨rfl,B.out⟩
  ·have G:=qQ (qXV (R:=R) (by omega) (by omega));obtain⟨n,d⟩:∃n,n=R.length:=⟨_,rfl⟩
   rw[<-d]at H o f ⊢;clear d;have Q:=qQ (p7 R.flatten);have Y:=qQ (fun W A c (hr:jy W w.1.size (.slice A R.flatten.length c) R.flatten)=>qXK W w.1.size R.flatten.length c A R.flatten hr rfl (by omega));obtain⟨m,F⟩:∃m,m=R.flatten.length:=⟨_,rfl⟩
   rw[<-F]at H t u G Q Y;clear F;generalize hq:ye R=q at*;clear hq;generalize hs:yg R.flatten=s at*;clear hs;generalize R.flatten=l at*;have q1:decide ((5:Int)<(n:Int))=false:=qA (by omega);have q2:decide (5<n)=false:=qA (by omega);have q3:decide ((40:Int)<(m:Int))=false:=qA (by omega);have q4:decide (40<m)=false:=qA (by omega);have ad:m<=40:=(by omega);clear u f o t;go_enter func115,ntmps115;go_wp2_with fail;refine H.out.mono ?_;rintro e w1⟨A,c,rfl,r,a⟩;have B:=qQ a;have ab:=qQ (Y.out w1 A c r);clear r a;go_wp2_with fail;refine ab.out.mono ?_;rintro e w2⟨rfl,h3,h4⟩;have N:=qQ (show Below w.1.size w w2 from B.out.trans h4);have aa:=jy.xH h3;obtain⟨A',off,ac,ev,-,hc⟩:=aa.form;obtain⟨rfl,-,rfl⟩:=Value.slice.inj ev;have X:=qQ hc;clear h3 h4 aa ev hc;go_wp2;go_loopw [20] (fun i wr=>∃k:Nat,k<=m/\i=.int .i64 k/\mu s k/\wr=w2) (fun i _=>m-(intOf i).toNat)
   case atStart=>exact⟨0,qI _,rfl,fun i hi=>(by omega),rfl⟩
   case round =>
    obtain⟨k,hk,rfl,hst,rfl⟩:=hrel;have S:=qQ hst;clear hst;by_cases K:k<m
    ·have l1:(k:Int)<(m:Int):=(by omega);obtain⟨x,T⟩:∃x,s[k]? = some x:=⟨_,qE (by rw[Q.out];exact K)⟩
     obtain⟨b,rfl,hb,cx⟩:=X.out k x T;have I:=qQ T;clear T hb;by_cases C:x<0
     ·have P:=qQ (qXY I.out K C);have V:q=false:=by cases q with|true=>exact absurd (G.out.1 rfl) P.out|false=>rfl
      subst V;have q5:decide (x<0)=true:=qB C;go_wp2;go_ret;exact⟨rfl,N.out⟩
     ·have q5:decide (x<0)=false:=qA C;have J:0<=x:=(by omega);cases k with
      | zero =>
        have O:=qQ (Bt S.out I.out J (fun j y e=>by omega));rw[Nat.add_zero]at cx;clear C J;go_wp2;refine⟨⟨1,by omega,rfl,O.out,trivial⟩,by simp[intOf];omega⟩
      | succ j =>
        obtain⟨y,U⟩:∃y,s[j]? = some y:=⟨_,qE (by rw[Q.out];omega)⟩
        obtain⟨b',eb,-,cy⟩:=X.out j y U;obtain rfl:b=b':=(by cases eb;rfl);have Z:=qQ U;have q6:decide ((0:Int)<((j+1:Nat):Int))=true:=qB (by omega);have q7:IntKind.i64.wrap (((j+1:Nat):Int)-1)=(j:Int):=(by rw[qz _ ⟨by omega,by omega⟩];omega);have q8:(j:Int)<(m:Int):=(by omega);clear U eb;by_cases L:x=y
        ·subst L;have P:=qQ (qXU I.out Z.out K);have V:q=false:=by cases q with|true=>exact absurd (G.out.1 rfl) P.out|false=>rfl
         subst V;go_wp2;go_ret;exact⟨rfl,N.out⟩
        ·have O:=qQ (Bt S.out I.out J (fun i z e hz=>by
          obtain rfl:i=j:=(by omega);rw[Z.out]at hz;obtain rfl:y=z:=(by simpa using hz);exact L))
         have q9:(x==y)=false:=qg.2 L;clear C J L;go_wp2;refine⟨⟨j+1+1,by omega,by go_num,O.out,trivial⟩,by simp[intOf];omega⟩
    ·obtain rfl:k=m:=(by omega);have l1:¬(k:Int)<(k:Int):=(by omega);have qt:q=true:=G.out.2 S.out;subst qt;clear K;go_wp2;go_ret;exact⟨rfl,N.out⟩
def kD(n c:Int)(d:Nat)(v:Value):Value:=.agg #[n,c,.int .u64 (d:Nat),v]
abbrev vq(n c:Int)(d:Nat)(v:Value):Obj:=.cells #[n,c,.int .u64 (d:Nat),v] 47
theorem qXG(n c:Int)(d:Nat)(R:LvL)(a:0<=n)(b:n<=1000000)(f:0<=c)(i:c<=2147483647)(j:ye R=true):fA ⟨n,c,d,R⟩=true↔∀x∈R.flatten,x<n:=by
 unfold fA;rw[decide_eq_true_iff];exact⟨fun h=>h.2.2.2.2.2,fun h=>⟨a,b,f,i,of_decide_eq_true j,h⟩⟩
theorem qXW{n c:Int}{d:Nat}{R:LvL}(a:ye R=false):fA ⟨n,c,d,R⟩=false:=qA fun h=>(of_decide_eq_false a) h.2.2.2.2.1
theorem qXA{n c:Int}{d:Nat}{R:LvL}(h:n<0∨1000000<n∨c<0∨2147483647<c):fA ⟨n,c,d,R⟩=false:=qA fun j=>by
 obtain⟨a,b,f,i,-⟩:=j;simp only at a b f i;omega
theorem cj{B:Nat}{w w':World}{p:Addr}{v:Value}(a:Below B w w')(b:p.block<B)(h:w.cell? p=some v):w'.cell? p=some v:=(a.cell b).trans h
theorem qXB(n c:Int)(d:Nat)(A:Option Addr)(k cp:Nat)(R:LvL)(w:World)(a:n<0∨1000000<n∨c<0∨2147483647<c):
  Calls prog 192 #[kD n c d (.slice A k cp)] w (X3 (.bool (fA ⟨n,c,d,R⟩)) w):=by
 rw[qXA a];have b:=(qG w.1.size w).alloc (qK _) (vq n c d (.slice A k cp));unfold kD;by_cases f:n<0
 ·have m:decide (n<0)=true:=qB f;clear a;go_enter func192,ntmps192;go_wp2;go_ret;exact⟨rfl,b⟩
 ·have m:decide (n<0)=false:=qA f;by_cases i:1000000<n
  ·have o:decide (1000000<n)=true:=qB i;clear a;go_enter func192,ntmps192;go_wp2;go_ret;exact⟨rfl,b⟩
  ·have o:decide (1000000<n)=false:=qA i;by_cases j:c<0
   ·have q:decide (c<0)=true:=qB j;clear a;go_enter func192,ntmps192;go_wp2;go_ret;exact⟨rfl,b⟩
   ·have q:decide (c<0)=false:=qA j;have l:2147483647<c:=(by omega);have r:decide (2147483647<c)=true:=qB l;clear a;go_enter func192,ntmps192;go_wp2;go_ret;exact⟨rfl,b⟩
theorem Jd(n c:Int)(d:Nat)(A:Option Addr)(k cp:Nat)(R:LvL)(w:World)(h:km w (.slice A k cp) R)(I:R.flatten.length<=100000)(Y:R.length<=100000):
  Calls prog 192 #[kD n c d (.slice A k cp)] w (X3 (.bool (fA ⟨n,c,d,R⟩)) w):=by
 by_cases K:n<0∨1000000<n∨c<0∨2147483647<c
 ·exact qXB n c d A k cp R w K
 have q0:decide (n<0)=false:=qA (by omega);have q1:decide (1000000<n)=false:=qA (by omega);have q2:decide (c<0)=false:=qA (by omega);have q3:decide (2147483647<c)=false:=qA (by omega);have f:=(qG w.1.size w).alloc (qK _) (vq n c d (.slice A k cp));have Q:=qQ f;have C:=h.below f (qK _);have r:=qQ (Jc _ R _ C I Y);unfold kD;cases o:ye R with
 | false =>
   rw[o]at r;rw[qXW o];clear h f C o K;go_enter func192,ntmps192;go_wp2_with fail;refine r.out.mono ?_;rintro e N⟨rfl,a⟩;have z:=qQ a;clear a;go_wp2;go_ret;exact⟨rfl,bj Q.out z.out⟩
 | true =>
   rw[o]at r;have T:=qQ (qXG n c d R (by omega) (by omega) (by omega) (by omega) o);have u:=qQ (fun W (hW:Below (w.1.size+1) (w.alloc (vq n c d (.slice A k cp))) W)=>nR _ R W (C.below hW (by simp)) I Y);obtain⟨m,J⟩:∃m,m=R.flatten.length:=⟨_,rfl⟩
   have G:=qQ J;unfold bN at u;rw[<-J]at u I;clear J;generalize fA ⟨n,c,d,R⟩=q at*;generalize R.flatten=l at*;have c0:(w.alloc (vq n c d (.slice A k cp))).cell? ⟨w.1.size,0,none⟩=some (.int .i64 n):=World.cell?_alloc_at _ _ _ _ rfl;have B:(w.alloc (vq n c d (.slice A k cp))).cell? ⟨w.1.size,3,none⟩=some (.slice A k cp):=World.cell?_alloc_at _ _ _ _ rfl;have C0:=qQ c0;have C3:=qQ B;clear h f C o K c0 B;go_enter func192,ntmps192;go_wp2_with fail;refine r.out.mono ?_;rintro e N⟨rfl,a⟩;rw[World.size_alloc]at a;have c0:=cj a (show w.1.size<w.1.size+1 by omega) C0.out;have B:=cj a (show w.1.size<w.1.size+1 by omega) C3.out;have ad:=a.size;rw[World.size_alloc]at ad;have z:=qQ (Q.out.trans (a.mono (by simp)));have O:=qQ (u.out N a);clear a u r;go_wp2_with fail;refine O.out.mono ?_;rintro e w2⟨A2,c2,rfl,hr,H⟩;have S:=qQ (bj z.out (H.mono (by have:=z.out.size;omega)));have d0:=cj H (show w.1.size<N.1.size by omega) c0;obtain⟨A',off,ac,V,-,hc⟩:=(jy.xH hr).form;have X:(Value.slice A2 m c2)=.slice A' m ac:=(by rw[V,<-G.out]);obtain⟨rfl,-,rfl⟩:=Value.slice.inj X;have HC:=qQ hc;clear hr H hc O c0 B V X;go_wp2;go_loopw [33] (fun i wr=>∃j:Nat,j<=m/\i=.int .i64 j/\(∀i x,i<j->l[i]? = some x->x<n)/\wr=w2) (fun i _=>m-(intOf i).toNat)
   case atStart=>exact⟨0,qI _,rfl,fun i x F=>(by omega),rfl⟩
   case round =>
    obtain⟨j,hj,rfl,Z,rfl⟩:=hrel;have P:=qQ Z;clear Z;by_cases aa:j<m
    ·have l1:(j:Int)<(m:Int):=(by omega);obtain⟨x,t⟩:∃x,l[j]? = some x:=⟨_,qE (by rw[<-G.out];exact aa)⟩
     obtain⟨b,rfl,f,cx⟩:=HC.out j x t;have U:=qQ t;clear t f;by_cases ab:n<=x
     ·have qf:q=false:=by
       cases q with
       | false=>rfl
       | true=>have:=T.out.1 rfl x (qN U.out);omega
      subst qf;have q4:decide (n<=x)=true:=qB ab;go_wp2;go_ret;exact⟨rfl,S.out⟩
     ·have q4:decide (n<=x)=false:=qA ab;go_wp2;refine⟨⟨j+1,by omega,by go_num,fun i y F L=>?_,trivial⟩,by simp[intOf];omega⟩;rcases qd i j with e|e
      ·exact P.out i y e L
      ·obtain rfl:i=j:=(by omega);rw[U.out]at L;have:=qb L;omega
    ·obtain rfl:j=m:=(by omega);have l1:¬(j:Int)<(j:Int):=by omega
     have qt:q=true:=T.out.2 fun x t=>by
      obtain⟨i,F⟩:=ql t;exact P.out i x (by have:=(qO.1 F).1;rw[<-G.out]at this;exact this) F
     subst qt;clear aa;go_wp2;go_ret;exact⟨rfl,S.out⟩
end
section
open Go.RowKit
def dc(w0:World)(E:List Nat)(w:World)(v:Value)(R:LvL):Prop:=∀W,Below w0.1.size w0 W->jM E w W->km W v R
section
variable {At:j6}{w0 w w':World}{gd:Nat}{D:jL}{E E':List Nat}{v:Value}{R:LvL}
theorem dc.now(h:dc w0 E w v R)(a:DS At w0 gd D E w):km w v R:=h w a.kept (jM.refl _ _)
theorem dc.step(h:dc w0 E w v R)(b:jM E w w'):dc w0 E w' v R:=fun W a k=>h W a (b.trans k)
end
def Jf(At:j6)(w0:World)(gd:Nat)(D:jL)(E:List Nat)(w:World)(e:Ending)(w':World):Prop :=
 ∃(x0 x1:Int) (x2:Nat) (A:Option Addr) (n c:Nat) (R:LvL),e=.returned (.tuple #[kD x0 x1 x2 (.slice A n c),.int .i64 (yM D)])/\kK D=⟨x0,x1,x2,R⟩/\n=R.length/\km w' (.slice A n c) R/\R.length<=300/\R.flatten.length<=100000/\x2<18446744073709551616/\DS At w0 gd (cM D) E w'/\jM E w w'
def Ba(At:j6)(w0:World)(gd:Nat)(D:jL)(m:ji)(E:List Nat)(w:World)(e:Ending)(w':World):Prop :=
 ∃v,e=.returned v/\uP w' v (gN (D.l.map jO.name) m)/\DS At w0 gd D (jS v++E) w'/\jM E w w'
structure gq(At:j6):Prop where
 load:∀ {w0 w:World} {gd:Nat} {D:jL} {E:List Nat},DS At w0 gd D E w->WfP D->D.count<=1099511627776 ->
  Calls prog 132 #[ptr gd] w (Jf At w0 gd D E w)
 swap:∀ {w0 w:World} {gd:Nat} {D:jL} {E:List Nat} (n c:Int) (d:Nat) (A:Option Addr) (k cp:Nat) (R:LvL),DS At w0 gd D E w->WfP D->dc w0 E w (.slice A k cp) R->k=R.length->R.flatten.length<=100000->R.length<=100000->d<18446744073709551616 ->
  Calls prog 180 #[ptr gd,kD n c d (.slice A k cp)] w (yf At w0 gd (err (uW D ⟨n,c,d,R⟩).1) (uW D ⟨n,c,d,R⟩).2 E w)
 clean:∀ {w0 w:World} {gd:Nat} {D:jL} {E:List Nat} (n c:Int) (d:Nat) (A:Option Addr) (k cp:Nat) (R:LvL),DS At w0 gd D E w->WfP D->dc w0 E w (.slice A k cp) R->k=R.length->R.flatten.length<=100000->R.length<=100000 ->
  Calls prog 83 #[ptr gd,kD n c d (.slice A k cp)] w (yf At w0 gd (err (nX D ⟨n,c,d,R⟩).1) (nX D ⟨n,c,d,R⟩).2 E w)
theorem qXC{At:j6}(api:j8 At)(w:World)(c:Nat)(j:c<=1048576):Calls prog 24 #[c] w fun e w'=>∃g,e=.returned (.tuple #[ptr g,.int .i64 0])/\DS At w g (fV c) [] w':=by
 refine(api.jF w.1.size c w (qK _) j).mono ?_;rintro e w'⟨g,F,a,d,l,f⟩;exact⟨g,a,F,d,f.below (qK _) (fun x k=>(by cases k)),fun b i=>(by cases i)⟩
theorem uP.own{w:World}{v:Value}{l:List Tw}(h:uP w v l):∀b∈jS v,b<w.1.size∨l=[]:=by
 intro b a;rcases h with⟨rfl,-⟩|⟨g,off,f,rfl,-,-,c,-⟩
 ·exact qY rfl
 ·have d:=ja.1 a;obtain rfl:g=b:=by simpa[Value.ownBlock] using d
  exact qX c
section
variable {At:j6}(api:j8 At){w0 w:World}{gd:Nat}{D:jL}{E:List Nat}
include api
theorem qXD(h:DS At w0 gd D E w)(ok:WfP D):Calls prog 98 #[ptr gd] w fun e w'=>∃v B,e=.returned v/\uP w' v (D.l.map jO.name)/\DS At w0 gd D (B++E) w'/\jM E w w'/\(D.l≠[]->∀b∈jS v,b∈B):=by
 obtain⟨F,o,q,c⟩:=h;refine(api.names o ok.ok).mono ?_;rintro e w'⟨f,v,j,i,z,m,A,d⟩;have t:jM E w w':=⟨d.size,fun b a=>d.block b (c b a).2 (c b a).1⟩
 have y:∀b∈E,b ∉ f/\b<w'.1.size:=fun b a=>⟨fun C=>by
  rcases A b C with k|k
  ·exact(c b a).1 k
  ·have:=(c b a).2;omega,qS (c b a).2 d.size⟩
 have r:=q.trans (d.below q.size (fun x H=>(api.low o x H).1));by_cases u:D.l=[]
 ·exact⟨v,[],j,i,⟨f,m,r,y⟩,t,fun h=>absurd u h⟩
 ·refine⟨v,jS v,j,i,⟨f,m,r,fun b a=>?_⟩,t,fun _ b a=>a⟩;rcases qD.1 a with a|a
  ·have G:=ja.1 a;rcases i.own b a with h|h
   ·exact⟨(z b G).2,h⟩
   ·exact absurd (List.map_eq_nil_iff.1 h) u
  ·exact y b a
end
theorem DS.box{At:j6}(api:j8 At){w0 w:World}{gd:Nat}{D:jL}{E:List Nat}(h:DS At w0 gd D E w)(o:Obj):DS At w0 gd D E (w.alloc o):=h.below api ((qG w.1.size w).alloc (qK _) o)
theorem jM.ints{E:List Nat}{w w':World}{v:Value}{l:List Int}(h:jM E w w')(a:kN w v l)(m:∀b∈jS v,b∈E):kN w' v l:=by
 rcases a with a|⟨b,off,c,rfl,d,f,j,k⟩
 ·exact qX a
 ·exact qY ⟨b,off,c,rfl,d,f,qS j h.size,fun i x o=>(World.cell?_of_block (w:=w) (h.block b (m b (ja.2 rfl)))).trans (k i x o)⟩
end
section
open Go.RowKit Go.Shelf
theorem qXE{R:LvL}{k:Nat}{x:List Int}(a:R[k]? = some x)(h:x.length≠0):kt R (k+1)=k+1:=by
 unfold kt;rw[qZ];rw[qj,a];exact fun e=>h (by rw[show x=[] from e];rfl)
theorem qXF{R:LvL}{k:Nat}{x:List Int}(a:R[k]? = some x)(h:x.length=0):kt R (k+1)=kt R k:=by
 rw[kt,qV];rw[qj,a];exact xK.1 h
theorem km.take{w:World}{n c k:Nat}{A:Option Addr}{R:LvL}(h:km w (.slice A n c) R)(j:n=R.length)(u:k<=n):
  km w (.slice A k c) (R.take k)/\(0<n->sliced A 0 k c 1=.slice A k c/\k<=c):=by
 obtain⟨M,⟨l,m⟩,rfl⟩:=h;rw[gh]at j;subst j;have t:fm w (M.take k):=fun x d=>m x (List.mem_of_mem_take d)
 have y:(M.take k).length=k:=by rw[qT];omega
 rcases l with⟨rfl,a,B,f⟩|⟨b,off,C,f,G,o,q,r⟩
 ·obtain⟨rfl,-,rfl⟩:=Value.slice.inj f;have z:k=0:=by simpa using u
  subst z;exact⟨⟨[],⟨qX ⟨rfl,_,_,rfl⟩,fun x d=>(by cases d)⟩,rfl⟩,fun h=>absurd h (by simp)⟩
 ·obtain⟨rfl,-,rfl⟩:=Value.slice.inj f;refine⟨⟨M.take k,⟨qY ⟨b,off,c,by rw[y],by omega,o,q,fun i x d=>?_⟩,t⟩,by rw[Kf]⟩,fun F=>⟨?_,by omega⟩⟩
  ·rw[List.getElem?_take]at d;split at d
   ·exact r i x d
   ·cases d
  ·unfold sliced;rw[qZ (by omega)];simp[Addr.add]
theorem qXH{n c k:Nat}{A:Option Addr}(b:k<=c)(e:sliced A 0 k c 1=.slice A k c)(W:World):(Instr.slice 45 (.slice A n c) none (some (.int .i64 (k:Nat))) none).run prog W=.ok (.slice A k c) W:=by
 have a:(sizeOf (prog.elem 45)).run prog W=.ok 1 W:=by simp[go_sem]
 rw[run_slice_h W _ _ _ c Tryz.underlying45 .i64 _ (by omega) (by omega),a];show Result.ok (sliced _ _ _ _ _) W=_;rw[qa,e]
def Qj(w:World)(t:Nat)(A:Option Addr)(c:Nat)(e:Ending)(w':World):Prop:=e=.returned (.slice A t c)/\w'=w
theorem Be{w:World}{n c k:Nat}{A:Option Addr}{R:LvL}(h:km w (.slice A n c) R)(a:n=R.length)(b:k=kt R n):
  k=(jc R).length/\km w (.slice A k c) (jc R):=by
 have d:=sa R n;have e:jc R=R.take k:=by unfold jc;rw[<-a,b]
 refine⟨by rw[e,qT];omega, ?_⟩;rw[e];exact(h.take a (by omega)).1
theorem qXI{w:World}{n c:Nat}{A:Option Addr}{R:LvL}(h:km w (.slice A n c) R)(t:n=R.length):∀j,j<n->∃g off a m d,A=some ⟨g,off,none⟩/\w.cell? ⟨g,off+j,none⟩=some (.slice a m d)/\(m≠0->kt R (j+1)=j+1)/\(m=0->kt R (j+1)=kt R j):=by
 intro j r;obtain⟨o,off,q,i,-,k⟩:=h.form;obtain⟨rfl,-,rfl⟩:=Value.slice.inj i;obtain⟨y,f⟩:∃y,R[j]? = some y:=⟨_,qE (by omega)⟩
 obtain⟨b,u,rfl,-,c1,l⟩:=k j y f;obtain⟨a,z,d,rfl,-,-⟩:=l.form;exact⟨b,off,a,y.length,d,rfl,c1,qXE f,qXF f⟩
theorem qXL(A:Option Addr)(n c:Nat)(R:LvL)(w:World)(h:km w (.slice A n c) R)(d:n=R.length)(I:n<=100000):
  Calls prog 271 #[.slice A n c] w (Qj w (jc R).length A c):=by
 have q:=qQ (fun k (b:k=kt R n)=>(Be h d b).1);have F:=qQ (fun k m (b:k<=n) (a:0<n) W=>qXH (n:=m) ((h.take d b).2 a).2 ((h.take d b).2 a).1 W);have z:=qQ (qXI h d);unfold Qj;generalize (jc R).length=Q at*;clear h d;generalize r:kt R=f at*;have C:=qQ (show f 0=0 by rw[<-r];rfl);clear r;go_enter func271,ntmps271;go_wp2;go_loopw [0] (fun u wr=>∃k:Nat,k<=n/\u=.slice A k c/\f k=f n/\wr=w) (fun u _=>match u with | .slice _ k _=>k|_=>0)
 case atStart=>exact⟨n,qK _,rfl,rfl,rfl⟩
 case round =>
  obtain⟨k,b,rfl,t,rfl⟩:=hrel;have i:=qQ t;clear t;cases k with
  | zero =>
    obtain rfl:=q.out 0 (by rw[<-i.out,C.out]);go_wp2;go_ret;exact⟨rfl,rfl⟩
  | succ j =>
    obtain⟨g,off,G,m,H,rfl,c1,l,o⟩:=z.out j (by omega);have K:decide ((0:Int)<((j+1:Nat):Int))=true:=qB (by omega);have L:IntKind.i64.wrap (((j+1:Nat):Int)-1)=(j:Int):=(by rw[qz _ ⟨by omega,by omega⟩];omega);have N:(j:Int)<((j+1:Nat):Int):=(by omega);by_cases a:m=0
    ·subst a;have B:=qQ ((o rfl).symm.trans i.out);have J:=fun W=>F.out j (j+1) (by omega) (by omega) W
     clear l o;go_wp2;exact⟨⟨j,by omega,rfl,B.out,trivial⟩,by simp⟩
    ·have y:=qQ (q.out (j+1) (by rw[<-i.out,l a]));have O:(((m:Nat):Int)==0)=false:=qg.2 (by omega);have P:(m==0)=false:=qg.2 a;clear l o a;go_wp2;go_ret;exact⟨by rw[<-y.out];rfl,rfl⟩
theorem qXM(A:Option Addr)(n c:Nat)(R:LvL)(d:n=R.length)(i:n<=100000):∃a b,∀w,km w (.slice A n c) R ->
  Calls prog 271 #[.slice A n c] w (Qj w (jc R).length a b)/\km w (.slice a (jc R).length b) (jc R) :=
 ⟨A,c,fun w h=>⟨qXL A n c R w h d i,by
  obtain⟨e,f⟩:=Be h d rfl;rw[<-e];exact f⟩⟩
def fO: LvS:=⟨.slice none 0 0,[]⟩
theorem Bi(n:Nat):(madeCells #[Value.slice none 0 0] (n*1)).toList=gH (List.replicate n fO):=by
 unfold gH;rw[List.map_replicate];apply xJ;intro i;rw[Array.getElem?_toList,List.getElem?_replicate];by_cases h:i<n
 ·rw[qV h];unfold madeCells;simp[h,Nat.mod_one,fO]
 ·rw[qZ h,Array.getElem?_eq_none (by rw[size_madeCells];omega)]
theorem qXN(n:Nat)(i:n<=1000000):∃Z:Array Value,(∀w:World,(Instr.makeSlice 45 (.int .i64 (n:Nat)) (.int .i64 (n:Nat))).run prog w=.ok (.slice (some ⟨w.1.size,0,none⟩) n n) (w.alloc (.cells Z 37))) /\
  ∀w:World,jl (w.alloc (.cells Z 37)) w.1.size (.slice (some ⟨w.1.size,0,none⟩) n n) (List.replicate n fO):=by
 obtain⟨f,b,c,a,d⟩:=info_parts XF;refine⟨madeCells #[Value.slice none 0 0] (n*1),fun w=>?_,fun w=>?_⟩
 ·have h:=run_makeSlice (P:=prog) w 45 37 f _ Tryz.underlying45 b c .i64 .i64 (n:Int) (n:Int) (by omega) (Int.le_refl _) (by rw[a];omega) (by rw[d];omega) (by omega);rw[a,qa]at h;exact h
 ·have h:=World.ownsRow_lit (base:=w.1.size) (e:=37) (size:=1) w (madeCells #[Value.slice none 0 0] (n*1)) n (qK _) (by unfold maxLen;omega) (size_madeCells _ _);unfold jl;rw[List.length_replicate,<-Bi];exact h
def lI(R:LvL)(n k:Nat):LvL:=R.take k++List.replicate (n-k) []
theorem qXO(R:LvL)(n:Nat):lI R n 0=List.replicate n []:=by unfold lI;rw[List.take_zero,List.nil_append,Nat.sub_zero]
theorem Bo{R:LvL}{n k:Nat}(a:k<=R.length)(h:R.length<=n):(lI R n k).length=n:=by
 unfold lI;rw[qL,qT,List.length_replicate];omega
theorem qXP{R:LvL}{n k:Nat}{x:List Int}(a:R[k]? = some x)(h:R.length<=n):(lI R n k).set k x=lI R n (k+1):=by
 have b:k<R.length:=(qO.1 a).1;have e:n-k=(n-(k+1))+1:=by omega
 unfold lI;rw[List.set_append_right _ _ (by rw[qT];omega),qT,Nat.min_eq_left (by omega),Nat.sub_self,e,List.replicate_succ,List.set_cons_zero,xQ,a];simp
theorem qXR(R:LvL):lI R 5 R.length=vA R:=rfl
def bD(w:World)(g n:Nat)(R:LvL)(k:Nat)(wr:World):Prop:=∃M,jl wr w.1.size (.slice (some ⟨g,0,none⟩) n n) M/\ub wr w.1.size M/\oX M/\lvl M=lI R n k/\Below w.1.size w wr
theorem bD.start{w w1:World}{Z:Array Value}(n:Nat)(R:LvL)(h:jl (w.alloc (.cells Z 37)) w.1.size (.slice (some ⟨w.1.size,0,none⟩) n n) (List.replicate n fO)):bD w w.1.size n R 0 (w.alloc (.cells Z 37)):=by
 refine⟨_,h,fun x a=>?_,fun i j x y a f d g b=>?_, ?_,(qG w.1.size w).alloc (qK _) _⟩
 ·rw[List.eq_of_mem_replicate a];exact jy.nil _ _
 ·have c:=List.eq_of_mem_replicate (qN a);rw[c]at b;cases b
 ·rw[qXO];unfold lvl;rw[List.map_replicate];rfl
theorem bD.cell{w wr:World}{g n k m:Nat}{R:LvL}(h:bD w g n R k wr)(z:m<n)(j:k<=R.length)(i:R.length<=n):(∃u,wr.cell? ⟨g,m,none⟩=some u)/\wr.frozen? ⟨g,m,none⟩=false/\w.1.size<=g/\g<wr.1.size:=by
 obtain⟨M,a,q,r,f,t⟩:=h;have l:M.length=n:=by rw[<-gh,f,Bo j i]
 obtain⟨y,o⟩:∃y,M[m]? = some y:=⟨_,qE (by omega)⟩
 obtain⟨c1,c2⟩:=jl.cell a l.symm o;obtain⟨d,e,b,c,-⟩:=jl.some_ a (by omega);obtain rfl:g=d:=by cases e;rfl
 exact⟨⟨_,c1⟩,c2,b,c⟩
theorem bD.next{w wr w2:World}{g n k m c:Nat}{A:Option Addr}{R:LvL}{x:List Int}(h:bD w g n R k wr)(u:R[k]? = some x)(d:R.length<=n)(t:jy w2 wr.1.size (.slice A m c) x)(f:Below wr.1.size wr w2):
  bD w g n R (k+1) (w2.setCell ⟨g,k,none⟩ (.slice A m c)):=by
 have P:k<R.length:=(qO.1 u).1;obtain⟨-,-,C,N⟩:=h.cell (m:=k) (by omega) (by omega) d;obtain⟨M,z,o,B,r,b⟩:=h;have F:M.length=n:=by rw[<-gh,r,Bo (by omega) d]
 have l:=jl.below z f (qK _);have I:=o.below f (qK _);have J:=jl.put l F.symm (i:=k) ⟨.slice A m c,x⟩;refine⟨M.set k ⟨.slice A m c,x⟩,J,fun y a=>?_,B.set fun q G j y O a H=>?_, ?_,(b.trans (f.mono b.size)).setCell C _⟩
 ·rcases List.mem_or_eq_of_mem_set a with a|rfl
  ·exact jy.xx (I y a) l
  ·exact jy.xx (jy.down t b.size) l
 ·have K:=(jy.block t q G).1;have L:=(jy.block (o y (qN a)) q H).2;omega
 ·rw[p8,r];exact qXP u d
def Qk(w:World)(R:LvL)(e:Ending)(w':World):Prop:=∃g,e=.returned (.slice (some ⟨g,0,none⟩) 5 5)/\bD w g 5 R R.length w'
theorem Bw(v:Value)(R:LvL)(w:World)(h:km w v R)(hl:R.flatten.length<=100000)(r:R.length<=5):Calls prog 117 #[v] w (Qk w R):=by
 obtain⟨A,off,ac,rfl,-,K⟩:=h.form;have P:=qQ K;have Q:=qQ (fun k x (f:R[k]? = some x)=>om f);have U:=qQ (fun wr g k j A m c x (o:bD w g 5 R k wr) (q:R[k]? = some x) (a:jy j wr.1.size (.slice A m c) x) d=>o.next q r a d);have C:=qQ (fun wr g k m (o:bD w g 5 R k wr) (q:m<5) a=>o.cell q a r);obtain⟨Z,I,J⟩:=qXN 5 (by omega);have W:=qQ (bD.start (w1:=w) 5 R (J w));have hZ:∀w:World,(Instr.makeSlice 45 (.int .i64 5) (.int .i64 5)).run prog w=.ok (.slice (some ⟨w.1.size,0,none⟩) 5 5) (w.alloc (.cells Z 37)):=I;unfold Qk;obtain⟨n,B⟩:∃n,n=R.length:=⟨_,rfl⟩
 have S:=qQ B;rw[<-B]at r C ⊢;clear h K B J I;go_enter func117,ntmps117;go_wp2;go_loopg [9] n (fun g i wr=>∃(k:Nat),k+g=n/\i=.int .i64 k/\bD w w.1.size 5 R k wr)
 case atStart=>exact⟨0,by omega,rfl,W.out⟩
 case round =>
  obtain⟨k,ad,rfl,L⟩:=hrel;have l:=qQ L;clear L;cases gk with
  | zero =>
    obtain rfl:k=n:=(by omega);have s1:¬(k:Int)<(k:Int):=(by omega);go_wp2;go_ret;exact⟨_,rfl,l.out⟩
  | succ Y =>
    have aa:k<n:=(by omega);have s1:(k:Int)<(n:Int):=(by omega);obtain⟨x,f⟩:∃x,R[k]? = some x:=⟨_,qE (by rw[<-S.out];exact aa)⟩
    obtain⟨b,u,rfl,hb,c1,z⟩:=P.out k x f;obtain⟨M,-,-,-,-,t⟩:=l.out;have c2:=(t.cell (p:=⟨b,off+k,none⟩) hb).trans c1;have F:=qQ (XE u x wr (z.below t (qK _)) (by have:=Q.out k x f;omega));obtain⟨A2,o2,ab,rfl,-,-⟩:=z.form;have V:=qQ (fun j A c a d=>U.out wr _ k j A x.length c x l.out f a d);obtain⟨⟨y,G⟩,H,-,N⟩:=C.out wr _ k k l.out (by omega) (by omega);unfold bN at F;clear f z t c1;generalize x.length=m at*;go_wp2_with fail;refine F.out.mono ?_;rintro e j⟨O,X,rfl,a,d⟩;have T:=qQ (V.out j O X a d);have d3:=(d.cell (p:=⟨w.1.size,k,none⟩) N).trans G;have d4:j.frozen? ⟨w.1.size,k,none⟩=false:=(by rw[World.frozen?_of_block (w:=wr) (d.block _ N)];exact H);clear a d G H;go_wp2;go_roundg Y
    case measure=>omega
    case rel=>exact⟨k+1,by omega,by go_num,T.out⟩
end
section
open Go.RowKit Go.Shelf
structure RdB(w:World)(s:Tw)(p:Nat)(x0 x1:Int)(x2:Nat)(v:Value)(wr:World):Prop where
 xc:Below w.1.size w wr
 b2:jN wr w.1.size 47 #[.int .i64 0,.int .i64 0,.int .u64 0,.slice none 0 0]
 b3:jN wr (w.1.size+1) 324 #[.string (yN s p)]
 b4:jN wr (w.1.size+2) 47 #[x0,x1,.int .u64 (x2:Nat),v]
section
variable {w wr:World}{s:Tw}{p x2:Nat}{x0 x1:Int}{v:Value}
theorem RdB.drew(h:RdB w s p x0 x1 x2 v wr):RdB w s p x0 x1 x2 v wr.drew:=⟨h.xc.drew,h.b2,h.b3,h.b4⟩
theorem RdB.alloc(h:RdB w s p x0 x1 x2 v wr)(o:Obj):RdB w s p x0 x1 x2 v (wr.alloc o):=⟨h.xc.alloc h.xc.size o,h.b2.alloc o,h.b3.alloc o,h.b4.alloc o⟩
theorem RdB.set(h:RdB w s p x0 x1 x2 v wr){g i:Nat}(a:w.1.size+3<=g)(u:Value):RdB w s p x0 x1 x2 v (wr.setCell ⟨g,i,none⟩ u) :=
 ⟨h.xc.setCell (p:=⟨g,i,none⟩) (show w.1.size<=g by omega) u,h.b2.xD (p:=⟨g,i,none⟩) (show w.1.size≠g by omega) u,h.b3.xD (p:=⟨g,i,none⟩) (show w.1.size+1≠g by omega) u,h.b4.xD (p:=⟨g,i,none⟩) (show w.1.size+2≠g by omega) u⟩
theorem RdB.rest(h:RdB w s p x0 x1 x2 v wr)(q:Nat):RdB w s q x0 x1 x2 v (wr.setCell ⟨w.1.size+1,0,none⟩ (.string (yN s q))) :=
 ⟨h.xc.setCell (p:=⟨w.1.size+1,0,none⟩) (show w.1.size<=w.1.size+1 by omega) _,h.b2.xD (p:=⟨w.1.size+1,0,none⟩) (show w.1.size≠w.1.size+1 by omega) _,h.b3.put 0 _,h.b4.xD (p:=⟨w.1.size+1,0,none⟩) (show w.1.size+2≠w.1.size+1 by omega) _⟩
theorem RdB.zm(h:RdB w s p x0 x1 x2 v wr)(y:Int):RdB w s p y x1 x2 v (wr.setCell ⟨w.1.size+2,0,none⟩ (.int .i64 y)) :=
 ⟨h.xc.setCell (p:=⟨w.1.size+2,0,none⟩) (show w.1.size<=w.1.size+2 by omega) _,h.b2.xD (p:=⟨w.1.size+2,0,none⟩) (show w.1.size≠w.1.size+2 by omega) _,h.b3.xD (p:=⟨w.1.size+2,0,none⟩) (show w.1.size+1≠w.1.size+2 by omega) _,h.b4.put 0 _⟩
theorem RdB.jA(h:RdB w s p x0 x1 x2 v wr)(y:Int):RdB w s p x0 y x2 v (wr.setCell ⟨w.1.size+2,1,none⟩ (.int .i64 y)) :=
 ⟨h.xc.setCell (p:=⟨w.1.size+2,1,none⟩) (show w.1.size<=w.1.size+2 by omega) _,h.b2.xD (p:=⟨w.1.size+2,1,none⟩) (show w.1.size≠w.1.size+2 by omega) _,h.b3.xD (p:=⟨w.1.size+2,1,none⟩) (show w.1.size+1≠w.1.size+2 by omega) _,h.b4.put 1 _⟩
theorem RdB.za(h:RdB w s p x0 x1 x2 v wr)(y:Nat):RdB w s p x0 x1 y v (wr.setCell ⟨w.1.size+2,2,none⟩ (.int .u64 (y:Nat))) :=
 ⟨h.xc.setCell (p:=⟨w.1.size+2,2,none⟩) (show w.1.size<=w.1.size+2 by omega) _,h.b2.xD (p:=⟨w.1.size+2,2,none⟩) (show w.1.size≠w.1.size+2 by omega) _,h.b3.xD (p:=⟨w.1.size+2,2,none⟩) (show w.1.size+1≠w.1.size+2 by omega) _,h.b4.put 2 _⟩
theorem RdB.zC(h:RdB w s p x0 x1 x2 v wr)(u:Value):RdB w s p x0 x1 x2 u (wr.setCell ⟨w.1.size+2,3,none⟩ u) :=
 ⟨h.xc.setCell (p:=⟨w.1.size+2,3,none⟩) (show w.1.size<=w.1.size+2 by omega) _,h.b2.xD (p:=⟨w.1.size+2,3,none⟩) (show w.1.size≠w.1.size+2 by omega) _,h.b3.xD (p:=⟨w.1.size+2,3,none⟩) (show w.1.size+1≠w.1.size+2 by omega) _,h.b4.put 3 _⟩
theorem RdB.take(h:RdB w s p x0 x1 x2 v wr)(d:s.size<=1100000)(k:Nat)(b:1<=k)(c:k<=8):
  Calls prog 284 #[.pointer (some ⟨w.1.size+1,0,none⟩),k] wr fun e w'=>e=.returned (.int .u64 (num s p k:Nat))/\RdB w s (p+k) x0 x1 x2 v w'/\w'=wr.setCell ⟨w.1.size+1,0,none⟩ (.string (yN s (p+k))) :=
 (YN s p k (w.1.size+1) wr b c d (h.b3.cell 0) (h.b3.frozen 0)).mono fun e w' a=>⟨a.1,by rw[a.2];exact h.rest (p+k),a.2⟩
theorem RdB.jJ(h:RdB w s p x0 x1 x2 v wr)(a:s.size<=1100000):Calls prog 284 #[.pointer (some ⟨w.1.size+1,0,none⟩),.int .i64 4] wr fun e w'=>e=.returned (.int .u64 (num s p 4:Nat))/\RdB w s (p+4) x0 x1 x2 v w'/\w'=wr.setCell ⟨w.1.size+1,0,none⟩ (.string (yN s (p+4))):=h.take a 4 (by decide) (by decide)
theorem RdB.zr(h:RdB w s p x0 x1 x2 v wr)(a:s.size<=1100000):Calls prog 284 #[.pointer (some ⟨w.1.size+1,0,none⟩),.int .i64 8] wr fun e w'=>e=.returned (.int .u64 (num s p 8:Nat))/\RdB w s (p+8) x0 x1 x2 v w'/\w'=wr.setCell ⟨w.1.size+1,0,none⟩ (.string (yN s (p+8))):=h.take a 8 (by decide) (by decide)
theorem RdB.jU(h:RdB w s p x0 x1 x2 v wr)(a:s.size<=1100000):Calls prog 284 #[.pointer (some ⟨w.1.size+1,0,none⟩),.int .i64 1] wr fun e w'=>e=.returned (.int .u64 (num s p 1:Nat))/\RdB w s (p+1) x0 x1 x2 v w'/\w'=wr.setCell ⟨w.1.size+1,0,none⟩ (.string (yN s (p+1))):=h.take a 1 (by decide) (by decide)
theorem RdB.cells(h:RdB w s p x0 x1 x2 v wr):wr.cell? ⟨w.1.size+2,0,none⟩=some (.int .i64 x0)/\wr.cell? ⟨w.1.size+2,1,none⟩=some (.int .i64 x1)/\wr.cell? ⟨w.1.size+2,2,none⟩=some (.int .u64 (x2:Nat))/\wr.cell? ⟨w.1.size+2,3,none⟩=some v/\(∀i,wr.frozen? ⟨w.1.size+2,i,none⟩=false)/\w.1.size+2<wr.1.size :=
 ⟨h.b4.cell 0,h.b4.cell 1,h.b4.cell 2,h.b4.cell 3,fun i=>h.b4.frozen i,h.b4.lt⟩
end
theorem qXS(s:Tw)(w:World)(m:s.size<=1100000):Calls prog 284 #[.pointer (some ⟨w.1.size+1,0,none⟩),.int .i64 4] ((w.alloc (.cells #[.int .i64 0,.int .i64 0,.int .u64 0,.slice none 0 0] 47)).alloc (.cells #[s] 324))
  fun e w'=>e=.returned (.int .u64 (num s 0 4:Nat))/\w'.1.size=w.1.size+2/\RdB w s 4 0 0 0 (.slice none 0 0) (w'.alloc (.cells #[.int .i64 0,.int .i64 0,.int .u64 0,.slice none 0 0] 47)):=by
 have c:=jN.new w 47 #[.int .i64 0,.int .i64 0,.int .u64 0,.slice none 0 0];have d:=c.alloc (.cells #[s] 324);have k:Below w.1.size w ((w.alloc (.cells #[.int .i64 0,.int .i64 0,.int .u64 0,.slice none 0 0] 47)).alloc (.cells #[s] 324)):=((qG _ _).alloc (qK _) _).alloc (by simp) _;have a:=jN.new (w.alloc (.cells #[.int .i64 0,.int .i64 0,.int .u64 0,.slice none 0 0] 47)) 324 #[s];generalize j:(w.alloc (.cells #[.int .i64 0,.int .i64 0,.int .u64 0,.slice none 0 0] 47)).alloc (.cells #[s] 324)=W at*;have o:W.1.size=w.1.size+2:=by rw[<-j];simp
 rw[World.size_alloc]at a;refine(YN s 0 4 (w.1.size+1) W (by decide) (by decide) m ((a.cell 0).trans (by rw[Ns];rfl)) (a.frozen 0)).mono fun e w' l=>?_
 obtain⟨f,i⟩:=l;subst i;have b:(W.setCell ⟨w.1.size+1,0,none⟩ (.string (yN s (0+4)))).1.size=w.1.size+2:=by rw[World.size_setCell];exact o
 have N:=jN.new (W.setCell ⟨w.1.size+1,0,none⟩ (.string (yN s (0+4)))) 47 #[.int .i64 0,.int .i64 0,.int .u64 0,.slice none 0 0];rw[b]at N;exact⟨f,b,(k.setCell (p:=⟨w.1.size+1,0,none⟩) (show w.1.size<=w.1.size+1 by omega) _).alloc (by rw[b];omega) _,(d.xD (p:=⟨w.1.size+1,0,none⟩) (show w.1.size≠w.1.size+1 by omega) _).alloc _,(a.put 0 _).alloc _,N⟩
theorem qXT(n:Nat):(madeCells #[Value.int .i64 0] (n*1)).toList=(List.replicate n (0:Int)).map fh:=by
 rw[List.map_replicate];apply xJ;intro i;rw[Array.getElem?_toList,List.getElem?_replicate];by_cases h:i<n
 ·rw[qV h];unfold madeCells;simp[h,Nat.mod_one,fh]
 ·rw[qZ h,Array.getElem?_eq_none (by rw[size_madeCells];omega)]
theorem qX0(n:Nat)(i:n<=1000000):∃Z:Array Value,(∀w:World,(Instr.makeSlice 37 (.int .u64 (n:Nat)) (.int .u64 (n:Nat))).run prog w=.ok (.slice (some ⟨w.1.size,0,none⟩) n n) (w.alloc (.cells Z 3))) /\
  ∀w:World,jy (w.alloc (.cells Z 3)) w.1.size (.slice (some ⟨w.1.size,0,none⟩) n n) (List.replicate n 0):=by
 obtain⟨f,b,c,a,d⟩:=info_parts sn;refine⟨madeCells #[Value.int .i64 0] (n*1),fun w=>?_,fun w=>?_⟩
 ·have h:=run_makeSlice (P:=prog) w 37 3 f _ Tryz.underlying37 b c .u64 .u64 (n:Int) (n:Int) (by omega) (Int.le_refl _) (by rw[a];omega) (by rw[d];omega) (by omega);rw[a,qa]at h;exact h
 ·have h:=World.ownsRow_lit (base:=w.1.size) (e:=3) (size:=1) w (madeCells #[Value.int .i64 0] (n*1)) n (qK _) (by unfold maxLen;omega) (size_madeCells _ _);unfold jy;rw[List.length_replicate,<-qXT];exact h
theorem qX1(n:Nat)(i:n<=1000000):∃Z:Array Value,(∀w:World,(Instr.makeSlice 45 (.int .u64 (n:Nat)) (.int .u64 (n:Nat))).run prog w=.ok (.slice (some ⟨w.1.size,0,none⟩) n n) (w.alloc (.cells Z 37))) /\
  ∀w:World,jl (w.alloc (.cells Z 37)) w.1.size (.slice (some ⟨w.1.size,0,none⟩) n n) (List.replicate n fO):=by
 obtain⟨f,b,c,a,d⟩:=info_parts XF;refine⟨madeCells #[Value.slice none 0 0] (n*1),fun w=>?_,fun w=>?_⟩
 ·have h:=run_makeSlice (P:=prog) w 45 37 f _ Tryz.underlying45 b c .u64 .u64 (n:Int) (n:Int) (by omega) (Int.le_refl _) (by rw[a];omega) (by rw[d];omega) (by omega);rw[a,qa]at h;exact h
 ·have h:=World.ownsRow_lit (base:=w.1.size) (e:=37) (size:=1) w (madeCells #[Value.slice none 0 0] (n*1)) n (qK _) (by unfold maxLen;omega) (size_madeCells _ _);unfold jl;rw[List.length_replicate,<-Bi];exact h
theorem Jh{W:World}{p q:Addr}{u:Value}(h:q.block≠p.block):(W.setCell p u).cell? q=W.cell? q:=by
 unfold World.cell?;rw[heap_setCell_other W p q.block u h]
theorem qX2{W:World}{q:Addr}{o:Obj}(h:q.block<W.1.size):(W.alloc o).cell? q=W.cell? q:=((qG W.1.size W).alloc (qK _) o).cell h
structure RdR(base g n:Nat)(M:List LvS)(wr:World):Prop where
 row:jl wr base (.slice (some ⟨g,0,none⟩) n n) M
 own:ub wr base M
 apart:oX M
 len:M.length=n
 gb:base<=g
section
variable {base g n:Nat}{M:List LvS}{wr:World}
theorem RdR.drew(h:RdR base g n M wr):RdR base g n M wr.drew:=⟨h.row,h.own,h.apart,h.len,h.gb⟩
theorem RdR.alloc(h:RdR base g n M wr)(o:Obj):RdR base g n M (wr.alloc o):=⟨jl.alloc h.row o,fun x a=>jy.below (h.own x a) ((qG wr.1.size wr).alloc (qK _) o) (qK _),h.apart,h.len,h.gb⟩
theorem RdR.ne(h:RdR base g n M wr){i c a:Nat}{l:List Int}(b:M[i]? = some ⟨.slice (some ⟨a,0,none⟩) c c,l⟩):g≠a:=fun e=>dF h.row (h.own _ (qN b)) so a rfl (by rw[e];rfl)
theorem RdR.start{w:World}{Z:Array Value}(n:Nat)(h:jl (w.alloc (.cells Z 37)) w.1.size (.slice (some ⟨w.1.size,0,none⟩) n n) (List.replicate n fO)):RdR w.1.size w.1.size n (List.replicate n fO) (w.alloc (.cells Z 37)) :=
 ⟨h,fun x a=>by rw[List.eq_of_mem_replicate a];exact jy.nil _ _,fun i j x y a d c g b=>by
  rw[List.eq_of_mem_replicate (qN a)]at b;exact(by cases b),List.length_replicate,qK _⟩
theorem RdR.xD(h:RdR base g n M wr){b i:Nat}(c:b<base)(u:Value):RdR base g n M (wr.setCell ⟨b,i,none⟩ u) :=
 ⟨vz h.row (fun e=>by have:=jl.block h.row b e;omega) u,fun x a=>vz (h.own x a) (fun e=>by have:=(jy.block (h.own x a) b e).1;omega) u,h.apart,h.len,h.gb⟩
theorem RdR.at_(h:RdR base g n M wr){i:Nat}{x:LvS}(a:M[i]? = some x):wr.cell? ⟨g,i,none⟩=some x.v/\wr.frozen? ⟨g,i,none⟩=false:=jl.cell h.row h.len.symm a
theorem RdR.lay(h:RdR base g n M wr){i c:Nat}{Z:Array Value}(d:base<=wr.1.size)
  (l:jy (wr.alloc (.cells Z 3)) wr.1.size (.slice (some ⟨wr.1.size,0,none⟩) c c) (List.replicate c 0)):
  RdR base g n (M.set i ⟨.slice (some ⟨wr.1.size,0,none⟩) c c,List.replicate c 0⟩) ((wr.alloc (.cells Z 3)).setCell ⟨g,i,none⟩ (.slice (some ⟨wr.1.size,0,none⟩) c c)):=by
 have b:=jl.alloc h.row (.cells Z 3);have m:=jl.put b h.len.symm (i:=i) ⟨.slice (some ⟨wr.1.size,0,none⟩) c c,List.replicate c 0⟩;refine⟨m,fun y a=>?_,h.apart.set fun q f j y r a k=>?_,by rw[List.length_set];exact h.len,h.gb⟩
 ·rcases List.mem_or_eq_of_mem_set a with a|rfl
  ·exact jy.xx (jy.below (h.own y a) ((qG wr.1.size wr).alloc (qK _) _) (qK _)) b
  ·exact jy.xx (jy.down l d) b
 ·have o:=(jy.block (h.own y (qN a)) q k).2;have:wr.1.size=q:=by simpa[Value.ownBlock] using f
  omega
theorem RdR.put(h:RdR base g n M wr){i j c a:Nat}{l:List Int}(f:M[i]? = some ⟨.slice (some ⟨a,0,none⟩) c c,l⟩)(o:c=l.length)(y:Int):
  RdR base g n (M.set i ⟨.slice (some ⟨a,0,none⟩) c c,l.set j y⟩) (wr.setCell ⟨a,j,none⟩ (.int .i64 y))/\base<=a/\wr.frozen? ⟨a,j,none⟩=false/\(j<c->∃u,wr.cell? ⟨a,j,none⟩=some u):=by
 subst o;have I:=h.own _ (qN f);have d:jy wr base (.slice (some ⟨a,0,none⟩) l.length l.length) l:=I;obtain⟨t,J⟩:=jy.block d a rfl;have hst:=(d.stored j (.int .i64 y)).1
 have H:jy (wr.setCell ⟨a,j,none⟩ (.int .i64 y)) base (.slice (some ⟨a,0,none⟩) l.length l.length) (l.set j y):=by
  unfold jy;rw[List.length_set,List.map_set];exact hst
 have A:i<M.length:=(qO.1 f).1;have r:jl (wr.setCell ⟨a,j,none⟩ (.int .i64 y)) base (.slice (some ⟨g,0,none⟩) n n) M:=vz h.row (dF h.row d so a rfl) _;refine⟨⟨?_,fun z m=>?_,h.apart.set fun q F k z b m G=>?_,by rw[List.length_set];exact h.len,h.gb⟩,t,d.frozenAt j,fun B=>⟨fh l[j],(d.cellAt j (by omega)).trans (by rw[qv,qE B];rfl)⟩⟩
 ·have e:gH (M.set i ⟨.slice (some ⟨a,0,none⟩) l.length l.length,l.set j y⟩)=gH M:=by
   unfold gH;rw[List.map_set];apply xJ;intro k;rw[List.getElem?_set];split
   ·rename_i e;subst e;rw[qV (by rw[qq];exact A),qv,f];rfl
   ·rfl
  unfold jl;rw[List.length_set,e];exact r
 ·obtain⟨k,b⟩:=ql m;rw[List.getElem?_set]at b;split at b
  ·obtain rfl:=qb b;exact H
  ·rename_i C;exact vz (h.own z (qN b)) (fun e=>h.apart i k _ z f b C a rfl e) _
 ·exact h.apart i k _ z f m (fun e=>b e.symm) q F G
end
end
section
open Go.RowKit Go.Shelf
def CQ(w:World)(s:Tw)(e:Ending)(w':World):Prop:=∃(x0 x1:Int) (x2:Nat) (A:Option Addr) (n c:Nat) (R:LvL),e=.returned (kD x0 x1 x2 (.slice A n c))/\n=R.length/\vB w' w.1.size (.slice A n c) R/\Below w.1.size w w'/\rE s ⟨x0,x1,x2,R⟩/\x2<18446744073709551616/\R.flatten.length<=100000/\R.length<=300
def RdL(s:Tw)(n i p:Nat)(M:List LvS):Prop:=i<=n/\∃L:LvL,L.length=i/\lvl M=L++List.replicate (n-i) []/\nQ s i p L/\∀x∈L,x.length<=255
theorem RdL.start(s:Tw)(n:Nat):RdL s n 0 21 (List.replicate n fO):=by
 refine⟨qI _,[],rfl, ?_,YE s,fun x a=>(by cases a)⟩;unfold lvl;rw[List.map_replicate];rfl
theorem RdL.next{s:Tw}{n i p:Nat}{M:List LvS}{v:Value}(h:RdL s n i p M)(hi:i<n)(j:num s p 1<=255):RdL s n (i+1) (p+1+4*num s p 1) (M.set i ⟨v,bq s (p+1) (num s p 1)⟩):=by
 obtain⟨k,L,b,c,d,f⟩:=h;refine⟨hi,L++[bq s (p+1) (num s p 1)],by rw[qL,b];rfl, ?_,YF d (qK _) (qX rfl),fun x a=>?_⟩
 ·rw[p8,c,List.set_append_right _ _ (by omega),b,Nat.sub_self,show n-i=(n-(i+1))+1 by omega,List.replicate_succ,List.set_cons_zero,qh];rfl
 ·rcases qD.1 a with a|a
  ·exact f x a
  ·rw[qH.1 a,rD];exact j
theorem CX: ∀(L:LvL),(∀x∈L,x.length<=255)->L.flatten.length<=255*L.length
 | [],_=>qI _
 | x::L,h=>by
   have h1:=CX L (fun y a=>h y (qF _ a));have b:=h x qC;rw[List.flatten_cons,qL,qu];omega
theorem RdL.done{s:Tw}{p:Nat}{M:List LvS}(i:num s 20 1<=255)(h:RdL s (num s 20 1) (num s 20 1) p M):rE s ⟨(num s 4 4:Nat),(num s 8 4:Nat),num s 12 8,lvl M⟩/\(lvl M).length=num s 20 1/\(lvl M).flatten.length<=100000:=by
 obtain⟨f,L,a,b,c,d⟩:=h;rw[Nat.sub_self]at b;have e:lvl M=L:=by rw[b];simp
 rw[e];have:=CX L d;exact⟨YH c (qK _) (qX rfl),a,by rw[a]at this;omega⟩
def cg(s:Tw)(p c k:Nat):List Int:=bq s p k++List.replicate (c-k) 0
theorem CZ(s:Tw)(p:Nat){c k:Nat}(h:k<=c):(cg s p c k).length=c:=by unfold cg;rw[qL,rD,List.length_replicate];omega
theorem qX3(s:Tw)(p c:Nat):cg s p c 0=List.replicate c 0:=by unfold cg;rw[Nq,List.nil_append,Nat.sub_zero]
theorem qX4(s:Tw)(p c:Nat):cg s p c c=bq s p c:=by unfold cg;rw[Nat.sub_self];simp
theorem qX5(s:Tw)(p:Nat){c k:Nat}(h:k<c):(cg s p c k).set k ((num s (p+4*k) 4:Nat):Int)=cg s p c (k+1):=by
 unfold cg;rw[List.set_append_right _ _ (by rw[rD];exact qK _),rD,Nat.sub_self,show c-k=(c-(k+1))+1 by omega,List.replicate_succ,List.set_cons_zero,N7,qh];rfl
theorem Jl(s:Tw)(p:Nat):num s p 4<4294967296:=ZK s p 4 4 (by decide) (by decide)
theorem sK(s:Tw)(p:Nat):num s p 1<=255:=by have:=ZK s p 1 1 (by decide) (by decide);omega
theorem qX6(s:Tw)(p:Nat):num s p 8<18446744073709551616:=ZK s p 8 8 (by decide) (by decide)
theorem qX7(s:Tw)(w:World)(hs:s.size<=1100000):Calls prog 246 #[s] w (CQ w s):=by
 have H0:=qQ (qXS s w hs);have am:=qQ (fun p x0 x1 x2 v wr (h:RdB w s p x0 x1 x2 v wr)=>h.jJ hs);have a2:=qQ (fun p x0 x1 x2 v wr (h:RdB w s p x0 x1 x2 v wr)=>h.zr hs);have aK:=qQ (fun p x0 x1 x2 v wr (h:RdB w s p x0 x1 x2 v wr)=>h.jU hs)
 have aW:Hid (∀A n c M p W B,w.1.size<=B->n=num s 20 1->jl W B (.slice A n c) M->ub W B M->Below w.1.size w W->RdL s n n p M->CQ w s (.returned (kD (num s 4 4:Nat) (num s 8 4:Nat) (num s 12 8) (.slice A n c))) W):=qQ fun A n c M p W B F e h1 h2 h3 h4=>by
  subst e;obtain⟨r1,r2,r3⟩:=RdL.done (sK s 20) h4;exact⟨_,_,_,A,_,c,lvl M,rfl,r2.symm,⟨M,jl.down h1 F,h2.down F,rfl⟩,h3,r1,qX6 s 12,r3,by rw[r2];have:=sK s 20;omega⟩
 have b0:=Jl s 4;have b1:=Jl s 8;have b3:=sK s 20;have q0:IntKind.i64.wrap ((num s 4 4:Nat):Int)=((num s 4 4:Nat):Int):=qz _ ⟨by omega,by omega⟩;have q1:IntKind.i64.wrap ((num s 8 4:Nat):Int)=((num s 8 4:Nat):Int):=qz _ ⟨by omega,by omega⟩;have ak:=qQ (RdL.start s (num s 20 1));obtain⟨Z,hZ,Y⟩:=qX1 (num s 20 1) (by omega);have U:=qQ Y;obtain⟨r,aA⟩:∃y,num s 4 4=y:=⟨_,rfl⟩
 obtain⟨t,aB⟩:∃y,num s 8 4=y:=⟨_,rfl⟩
 obtain⟨z,aV⟩:∃y,num s 12 8=y:=⟨_,rfl⟩
 obtain⟨n,hn⟩:∃y,num s 20 1=y:=⟨_,rfl⟩
 have aN:=qQ aA;have aO:=qQ aB;have aP:=qQ aV;have HN:=qQ hn;rw[hn]at ak U b3;rw[hn]at hZ;rw[aA]at b0 q0;rw[aB]at b1 q1;clear hs Y aA aB aV hn;go_enter func246,ntmps246;go_wp2_with fail;refine H0.out.mono ?_;rintro e w3⟨rfl,a_,f⟩;have m:=am.out _ _ _ _ _ _ f;rw[aN.out]at m;have T:=qQ m;clear f m H0;go_wp2_with fail;refine T.out.mono ?_;rintro e w4⟨rfl,f,-⟩;obtain⟨k0,-,-,-,C,-⟩:=f.cells;have J:=C 0;have m:=am.out _ _ _ _ _ _ (f.zm (r:Nat));rw[aO.out]at m;have T:=qQ m;clear f m C;go_wp2_with fail;refine T.out.mono ?_;rintro e w5⟨rfl,f,-⟩;clear k0 J;obtain⟨-,k1,-,-,C,-⟩:=f.cells;have J:=C 1;have m:=a2.out _ _ _ _ _ _ (f.jA (t:Nat));rw[aP.out]at m;have T:=qQ m;clear f m C;go_wp2_with fail;refine T.out.mono ?_;rintro e w6⟨rfl,f,-⟩;clear k1 J;obtain⟨-,-,k2,-,C,-⟩:=f.cells;have J:=C 2;have m:=aK.out _ _ _ _ _ _ (f.za z);rw[HN.out]at m;have T:=qQ m;clear f m C;go_wp2_with fail;refine T.out.mono ?_;rintro e P⟨rfl,f,-⟩;clear k2 J T;obtain⟨-,-,-,j3,jf,-⟩:=(f.alloc (.cells Z 37)).cells;have ba:=jf 3;obtain⟨-,-,-,O,C,aQ⟩:=f.cells;have J:=C 3;have an:=(RdR.start n (U.out P)).xD (b:=w.1.size+2) (i:=3) aQ (.slice (some ⟨P.1.size,0,none⟩) n n);have ae:=(f.alloc (.cells Z 37)).zC (.slice (some ⟨P.1.size,0,none⟩) n n);obtain⟨a,H⟩:∃a,a=P.1.size:=⟨_,rfl⟩
 obtain⟨w8,ay⟩:∃w8,w8=(P.alloc (.cells Z 37)).setCell ⟨w.1.size+2,3,none⟩ (.slice (some ⟨P.1.size,0,none⟩) n n):=⟨_,rfl⟩
 have aL:=qQ ay;have aF:=qQ H;rw[<-ay,<-H]at an ae;rw[<-H]at aQ;have aH:=qQ an;have af:=qQ ae;clear jf f C an ae ay H U a_;go_upto_region 8 with fail;rw[<-aL.out,<-aF.out];clear aL aF O J j3 ba;obtain⟨-,-,-,O,-,-⟩:=af.out.cells;have aI:=qQ (fun(W:World) (o:Obj) (h:w.1.size+2<W.1.size/\W.cell? ⟨w.1.size+2,3,none⟩=some (.slice (some ⟨a,0,none⟩) n n))=>(show w.1.size+2<(W.alloc o).1.size/\(W.alloc o).cell? ⟨w.1.size+2,3,none⟩=some (.slice (some ⟨a,0,none⟩) n n) from⟨by rw[World.size_alloc];omega,(qX2 h.1).trans h.2⟩));have aJ:=qQ (fun(W:World) (g i:Nat) (u:Value) (H:w.1.size+2≠g) (h:w.1.size+2<W.1.size/\W.cell? ⟨w.1.size+2,3,none⟩=some (.slice (some ⟨a,0,none⟩) n n))=>(show w.1.size+2<(W.setCell ⟨g,i,none⟩ u).1.size/\(W.setCell ⟨g,i,none⟩ u).cell? ⟨w.1.size+2,3,none⟩=some (.slice (some ⟨a,0,none⟩) n n) from⟨by rw[World.size_setCell];exact h.1,(Jh H).trans h.2⟩));go_wp2;go_loopg [24] n (fun g i wr=>∃(j p:Nat) (M:List LvS),j+g=n/\i=.int .i64 j/\RdB w s p (r:Nat) (t:Nat) z (.slice (some ⟨a,0,none⟩) n n) wr/\RdR a a n M wr/\RdL s n j p M)
 case atStart=>exact⟨0,21,_,by omega,rfl,af.out,aH.out,ak.out⟩
 case round =>
  obtain⟨j,p,M,bm,rfl,F,X,hL⟩:=hrel;clear af aH ak O;have q:=qQ F;have HR:=qQ X;have HL:=qQ hL;clear F X hL;obtain⟨wo,rfl⟩:∃wo,wo=wr:=⟨_,rfl⟩
  cases gk with
  | zero =>
    obtain rfl:j=n:=(by omega);have l1:¬(j:Int)<(j:Int):=(by omega);obtain⟨k0,k1,k2,O,-,-⟩:=q.out.cells;have d0:=q.out.b2.cell 0;have d1:=q.out.b2.cell 1;have d2:=q.out.b2.cell 2;have d3:=q.out.b2.cell 3;have f0:=q.out.b2.frozen 0;have f1:=q.out.b2.frozen 1;have f2:=q.out.b2.frozen 2;have f3:=q.out.b2.frozen 3;simp only[List.getElem?_toArray]at d0 d1 d2 d3;obtain⟨S,az⟩:∃S,S=((((wo.setCell ⟨w.1.size,0,none⟩ (.int .i64 (r:Nat))).setCell ⟨w.1.size,1,none⟩ (.int .i64 (t:Nat))).setCell ⟨w.1.size,2,none⟩ (.int .u64 (z:Nat))).setCell ⟨w.1.size,3,none⟩ (.slice (some ⟨a,0,none⟩) j j)):=⟨_,rfl⟩
    have N:=(((q.out.b2.put 0 (.int .i64 (r:Nat))).put 1 (.int .i64 (t:Nat))).put 2 (.int .u64 (z:Nat))).put 3 (.slice (some ⟨a,0,none⟩) j j);have ap:=(((q.out.xc.setCell (p:=⟨w.1.size,0,none⟩) (qK _) (.int .i64 (r:Nat))).setCell (p:=⟨w.1.size,1,none⟩) (qK _) (.int .i64 (t:Nat))).setCell (p:=⟨w.1.size,2,none⟩) (qK _) (.int .u64 (z:Nat))).setCell (p:=⟨w.1.size,3,none⟩) (qK _) (.slice (some ⟨a,0,none⟩) j j);have ac:=(((HR.out.xD (b:=w.1.size) (i:=0) (by omega) (.int .i64 (r:Nat))).xD (b:=w.1.size) (i:=1) (by omega) (.int .i64 (t:Nat))).xD (b:=w.1.size) (i:=2) (by omega) (.int .u64 (z:Nat))).xD (b:=w.1.size) (i:=3) (by omega) (.slice (some ⟨a,0,none⟩) j j);rw[<-az]at N ap ac;have e0:S.cell? ⟨w.1.size,0,none⟩=some (.int .i64 (r:Nat)):=N.cell 0;have e1:S.cell? ⟨w.1.size,1,none⟩=some (.int .i64 (t:Nat)):=N.cell 1;have e2:S.cell? ⟨w.1.size,2,none⟩=some (.int .u64 (z:Nat)):=N.cell 2;have e3:S.cell? ⟨w.1.size,3,none⟩=some (.slice (some ⟨a,0,none⟩) j j):=N.cell 3;have al:=aW.out _ _ _ _ _ _ _ (by omega) HN.out.symm ac.row ac.own ap HL.out;rw[aN.out,aO.out,aP.out]at al;have aZ:=qQ al;have a3:=qQ az;clear al az N ap ac;go_wp2;rw[<-a3.out];exact bodyPost_ret (v:=kD (r:Nat) (t:Nat) z (.slice (some ⟨a,0,none⟩) j j)) (by simp[results,Tryz.results246,go_sem,e0,e1,e2,e3];rfl) rfl aZ.out
  | succ a5 =>
    have aR:j<n:=(by omega);have l1:(j:Int)<(n:Int):=(by omega);obtain⟨c,hc⟩:∃c,num s p 1=c:=⟨_,rfl⟩
    have bi:c<=255:=(by have:=sK s p;omega);have HC:=qQ hc;obtain⟨y,hy⟩:∃y,M[j]? = some y:=⟨_,qE (by rw[HR.out.len];exact aR)⟩
    obtain⟨Zc,bb,Y⟩:=qX0 c (by omega);have U:=qQ Y;have HY:=qQ hy;obtain⟨-,-,-,O,-,kl⟩:=q.out.cells;have bv:w.1.size+2<wo.drew.1.size/\wo.drew.cell? ⟨w.1.size+2,3,none⟩=some (.slice (some ⟨a,0,none⟩) n n):=⟨kl,O⟩
    have m:=aK.out _ _ _ _ _ _ q.out.drew;rw[hc]at m;have K:=qQ (m.mono fun e w' I=>(⟨I.1,⟨I.2.1.cells.2.2.2.2.2,I.2.1.cells.2.2.2.1⟩,I.2.1,by rw[I.2.2];exact HR.out.drew.xD (b:=w.1.size+1) (i:=0) (by omega) _⟩:e=_/\(w.1.size+2<w'.1.size/\w'.cell? ⟨w.1.size+2,3,none⟩=some (.slice (some ⟨a,0,none⟩) n n))/\RdB w s (p+1) (r:Nat) (t:Nat) z (.slice (some ⟨a,0,none⟩) n n) w'/\RdR a a n M w'));have aT:w.1.size+2≠a:=(by omega);clear m hc hy Y;go_upto_region 11 with fail
    go_region_held3 (fun W=>w.1.size+2<W.1.size/\W.cell? ⟨w.1.size+2,3,none⟩=some (.slice (some ⟨a,0,none⟩) n n))
     (first|(with_reducible assumption)|(with_reducible exact aI.out _ _ (by with_reducible assumption))|(with_reducible exact aJ.out _ _ _ _ aT (by with_reducible assumption))|(with_reducible exact aJ.out _ _ _ _ aT (aI.out _ _ (by with_reducible assumption)))|fail)
     (first
     | (go_at_call 284;((with_reducible refine K.out.mono ?_);rintro e Q⟨rfl,au,V,G⟩;obtain⟨fa,fb⟩:=(G.alloc (.cells Zc 3)).at_ HY.out;obtain⟨fc,fd⟩:=G.at_ HY.out))
     | fail)
    have ao:=(V.alloc (.cells Zc 3)).set (i:=j) (show w.1.size+3<=a by omega) (.slice (some ⟨Q.1.size,0,none⟩) c c);have ar:=G.lay (i:=j) (c:=c) (Z:=Zc) (by have:=(World.ownsRow.lt G.row a rfl).2;omega) (U.out Q);obtain⟨d,av⟩:∃d,d=Q.1.size:=⟨_,rfl⟩
    obtain⟨wd,ad⟩:∃wd,wd=((Q.alloc (.cells Zc 3)).setCell ⟨a,j,none⟩ (.slice (some ⟨Q.1.size,0,none⟩) c c)):=⟨_,rfl⟩
    rw[<-ad,<-av,<-qX3 s (p+1) c]at ar;rw[<-ad]at ao;have ag:=qQ ao;have aa:=qQ ar;have aM:=qQ ad;have aG:=qQ av;clear ao ar ad av K;rw[<-aM.out,<-aG.out];clear aM aG au V G fa fb fc fd;have L:=qQ (fun(l:List Int)=>(show(M.set j ⟨.slice (some ⟨d,0,none⟩) c c,l⟩)[j]? = some ⟨.slice (some ⟨d,0,none⟩) c c,l⟩ from by rw[List.getElem?_set,qV rfl,qV (qO.1 HY.out).1]));have aY:=qQ (fun(l l':List Int)=>(show(M.set j ⟨.slice (some ⟨d,0,none⟩) c c,l⟩).set j ⟨.slice (some ⟨d,0,none⟩) c c,l'⟩=M.set j ⟨.slice (some ⟨d,0,none⟩) c c,l'⟩ from List.set_set ..));have a7:=aa.out.ne (L.out _);obtain⟨-,-,-,aC,-,aD⟩:=ag.out.cells;obtain⟨kj,-⟩:=aa.out.at_ (L.out _);simp only at kj;have a0:=qQ (fun(W:World) (i:Nat) (u:Value) (H:w.1.size+2≠d) (h:w.1.size+2<W.1.size/\W.cell? ⟨w.1.size+2,3,none⟩=some (.slice (some ⟨a,0,none⟩) n n)/\W.cell? ⟨a,j,none⟩=some (.slice (some ⟨d,0,none⟩) c c))=>(show w.1.size+2<(W.setCell ⟨d,i,none⟩ u).1.size/\(W.setCell ⟨d,i,none⟩ u).cell? ⟨w.1.size+2,3,none⟩=some (.slice (some ⟨a,0,none⟩) n n)/\(W.setCell ⟨d,i,none⟩ u).cell? ⟨a,j,none⟩=some (.slice (some ⟨d,0,none⟩) c c) from⟨by rw[World.size_setCell];exact h.1,(Jh H).trans h.2.1,(Jh a7).trans h.2.2⟩))
    have aX:=qQ (fun(k:Nat) (W:World) (f:RdB w s (p+1+4*k) (r:Nat) (t:Nat) z (.slice (some ⟨a,0,none⟩) n n) W) (I:RdR a a n (M.set j ⟨.slice (some ⟨d,0,none⟩) c c,cg s (p+1) c k⟩) W)=>(am.out _ _ _ _ _ _ f.drew).mono fun e w' h=>(show e=.returned (.int .u64 (num s (p+1+4*k) 4:Nat))/\(w.1.size+2<w'.1.size/\w'.cell? ⟨w.1.size+2,3,none⟩=some (.slice (some ⟨a,0,none⟩) n n)/\w'.cell? ⟨a,j,none⟩=some (.slice (some ⟨d,0,none⟩) c c))/\RdB w s (p+1+4*k+4) (r:Nat) (t:Nat) z (.slice (some ⟨a,0,none⟩) n n) w'/\RdR a a n (M.set j ⟨.slice (some ⟨d,0,none⟩) c c,cg s (p+1) c k⟩) w' from by
     have aU:RdR a a n (M.set j ⟨.slice (some ⟨d,0,none⟩) c c,cg s (p+1) c k⟩) w':=(by rw[h.2.2];exact I.drew.xD (b:=w.1.size+1) (i:=0) (by omega) _);exact⟨h.1,⟨h.2.1.cells.2.2.2.2.2,h.2.1.cells.2.2.2.1,(aU.at_ (L.out _)).1⟩,h.2.1,aU⟩))
    go_wp2;go_loopg [39] c (fun g i wx=>∃(k:Nat),k+g=c/\i=.int .i64 k/\RdB w s (p+1+4*k) (r:Nat) (t:Nat) z (.slice (some ⟨a,0,none⟩) n n) wx/\RdR a a n (M.set j ⟨.slice (some ⟨d,0,none⟩) c c,cg s (p+1) c k⟩) wx)
    case atStart=>exact⟨0,by omega,rfl,ag.out,aa.out⟩
    case round =>
     obtain⟨k,bp,rfl,F,X⟩:=hrel;clear ag aa aC aD kj;have ah:=qQ F;have ab:=qQ X;clear F X;cases gk with
     | zero =>
       obtain rfl:k=c:=(by omega);have l2:¬(k:Int)<(k:Int):=(by omega);have aE:=ah.out;have aj:=ab.out;have ai:=HL.out.next (v:=.slice (some ⟨d,0,none⟩) k k) aR (sK s p);rw[HC.out]at ai;rw[qX4]at aj;have H1:=qQ aE;have H2:=qQ aj;have H3:=qQ ai;clear aE aj ai;go_wp2;go_roundg a5
       case measure=>omega
       case rel=>exact⟨j+1,_,_,by omega,by go_num,H1.out,H2.out,H3.out⟩
     | succ gj =>
       have aS:k<c:=(by omega);have l2:(k:Int)<(c:Int):=(by omega);obtain⟨-,-,-,aC,-,aD⟩:=ah.out.cells;obtain⟨kj,-⟩:=ab.out.at_ (L.out _);simp only at kj;have a8:w.1.size+2<wr.drew.1.size/\wr.drew.cell? ⟨w.1.size+2,3,none⟩=some (.slice (some ⟨a,0,none⟩) n n)/\wr.drew.cell? ⟨a,j,none⟩=some (.slice (some ⟨d,0,none⟩) c c):=⟨aD,aC,kj⟩
       have K4:=aX.out k wr ah.out ab.out;obtain⟨x,hx⟩:∃x,num s (p+1+4*k) 4=x:=⟨_,rfl⟩
       have a9:=Jl s (p+1+4*k);have ax:=qX5 s (p+1) aS;rw[hx]at K4 a9 ax;have a1:=qQ ax;have K:=qQ K4;have qx:IntKind.i64.wrap ((x:Nat):Int)=((x:Nat):Int):=qz _ ⟨by omega,by omega⟩;have a6:w.1.size+2≠d:=(by have:=(ab.out.put (j:=k) (L.out _) (CZ s (p+1) (by omega)).symm 0).2.1;omega);clear K4 hx ax;go_upto_region 15 with fail
       go_region_held3 (fun W=>w.1.size+2<W.1.size/\W.cell? ⟨w.1.size+2,3,none⟩=some (.slice (some ⟨a,0,none⟩) n n)/\W.cell? ⟨a,j,none⟩=some (.slice (some ⟨d,0,none⟩) c c))
        (first|(with_reducible assumption)|(with_reducible exact a0.out _ _ _ a6 (by with_reducible assumption))|fail)
        (first
        | (go_at_call 284;((with_reducible refine K.out.mono ?_);rintro e Q⟨rfl,au,V,G⟩;obtain⟨aw,bk,ff,a4⟩:=G.put (j:=k) (L.out _) (CZ s (p+1) (by omega)).symm ((x:Nat):Int);obtain⟨xu,fc⟩:=a4 aS))
        | fail)
       rw[aY.out,a1.out]at aw;have aq:=V.set (i:=k) (show w.1.size+3<=d by omega) (.int .i64 ((x:Nat):Int));rw[show p+1+4*k+4=p+1+4*(k+1) by omega]at aq;have H1:=qQ aq;have H2:=qQ aw;clear aq aw au V G K ff fc a8;go_wp2;go_roundg gj
       case measure=>omega
       case rel=>exact⟨k+1,by omega,by go_num,H1.out,H2.out⟩
end
section
open Go.ChangeShapes Go.WideShapes Go.ChangeAt Go.RowKit Go.Deep
abbrev nS(x:Tw):Value:=.string x
theorem qX8{l:List Tw}:∀u∈l.map nS,u.oneCell'=true:=by
 intro u a;obtain⟨x,-,rfl⟩:=qP.1 a;rfl
abbrev vf(w:World)(base:Nat)(v:Value)(l:List Tw):Prop:=w.ownsRow base 9 1 v l.length (l.map nS)
theorem vf.nil(w:World)(base:Nat):vf w base (.slice none 0 0) []:=World.ownsRow_nil _ _ _ _
theorem vf.xH{w:World}{base:Nat}{v:Value}{l:List Tw}(h:vf w base v l):uP w v l:=by
 have b:=h;rcases h.2 with⟨a,f⟩|⟨g,d,o,a,q,j,m,k,t,u⟩
 ·exact qX ⟨xK.1 f,none,0,a⟩
 ·refine qY ⟨g,0,d,a,m,k,(qn.1 j).1,fun i x c=>?_⟩;have r:i<l.length:=(qO.1 c).1;rw[a]at b;rw[qe];refine(b.cellAt i (by omega)).trans ?_;show(l.map nS)[i]? = _;rw[qv,c];rfl
theorem vf.below{w w':World}{base B:Nat}{v:Value}{l:List Tw}(h:vf w base v l)(i:Below B w w')(f:w.1.size<=B):vf w' base v l:=by
 refine⟨h.1, ?_⟩;rcases h.2 with d|⟨g,b,c,m,j,a,r⟩
 ·exact qX d
 ·obtain⟨k,_⟩:=qn.1 a;exact qY ⟨g,b,c,m,j,(i.block g (qS k f)).trans a,r⟩
theorem vf.block{w:World}{base:Nat}{v:Value}{l:List Tw}(h:vf w base v l):∀k,v.ownBlock=some k->base<=k/\k<w.1.size:=fun k a=>h.lt k a
theorem qX9: (prog.info? 9).map (fun i=>(i.zero,i.size,i.bytes))=some (some (.string ⟨#[]⟩),1,16):=by kernel_rfl
theorem uP.src{w:World}{v:Value}{l:List Tw}(h:uP w v l):fX w 1 v l.length (l.map nS):=by
 refine⟨by rw[qq,Nat.mul_one], ?_⟩;rcases h with⟨rfl,a,c,rfl⟩|⟨b,off,f,rfl,o,q,r,k⟩
 ·cases a with
  | none=>exact qX ⟨c,rfl,rfl⟩
  | some a=>exact qY ⟨a,c,rfl,fun j u d=>by cases d⟩
 ·refine qY ⟨⟨b,off,none⟩,f,rfl,fun j u d=>?_⟩;rw[qv]at d;obtain⟨x,m,rfl⟩:=xG.1 d;have i:(⟨b,off,none⟩:Addr).add j=⟨b,off+j,none⟩:=by unfold Addr.add;split<;>simp_all
  rw[i];exact k j x m
theorem CJ(w:World)(x:Tw):uP (w.alloc (.cells #[Value.string x] 9)) (.slice (some ⟨w.1.size,0,none⟩) 1 1) [x]:=by
 refine qY ⟨w.1.size,0,1,rfl,qK _,by unfold maxLen;omega,by simp,fun i y a=>?_⟩
 match i,a with
 | 0,a =>
   obtain rfl:x=y:=(by simpa using a);simp
theorem CK{w:World}{base:Nat}{a b:Value}{l m:List Tw}(r:vf w base a l)(t:uP w b m)(C:l.length+m.length<=1000000)(o:base<=w.1.size)(f:TypeId):
  ∃A c w',(Builtin.append_ #[55,55] f #[a,b]).run prog w=.ok (.slice A (l.length+m.length) c) w'/\vf w' base (.slice A (l.length+m.length) c) (l++m)/\w.grownBy w' a.ownBlock/\((Value.slice A (l.length+m.length) c).ownBlock=a.ownBlock∨(Value.slice A (l.length+m.length) c).ownBlock=some w.1.size):=by
 obtain⟨B,q,u,y,z⟩:=info_parts qX9;obtain⟨F,w',i,d,j,k⟩:=fg (P:=prog) w base 55 9 B _ 1 16 f Tryz.underlying55 q u y z rfl (by decide) a l.length (l.map nS) r b m.length (m.map nS) t.src qX8 (by unfold maxLen;omega) (by omega) o;obtain⟨A,c,rfl,-,-,-⟩:=vl d;refine⟨A,c,w',i, ?_,j,k⟩;unfold vf;rw[List.map_append,qL];exact d
theorem qXq{B:Nat}{w w':World}{v:Value}(h:w.grownBy w' v.ownBlock)(b:B<=w.1.size)(a:∀k,v.ownBlock=some k->B<=k):Below B w w':=⟨h.os,h.tape,h.output,h.size,fun k c=>h.block k (by omega) (fun e=>by have:=a k e.symm;omega)⟩
theorem CV{w:World}{base n c:Nat}{A:Option Addr}{l:List Tw}{x:Tw}(z:vf w base (.slice A n c) l)(y:n=l.length)(t:n+1<=1000000)(q:base<=w.1.size)(f:TypeId):
  ∃w' u,(Builtin.append_ #[55,55] f #[.slice A n c,.slice (some ⟨w.1.size,0,none⟩) 1 1]).run prog (w.alloc (.cells #[x] 9))=.ok u w' /\
   (∃a b,u=.slice a (n+1) b/\vf w' base (.slice a (n+1) b) (l++[x]))/\Below base w w':=by
 subst y;have o:=(qG w.1.size w).alloc (qK _) (.cells #[x] 9);have d:=vf.below z o (qK _);obtain⟨a,b,w',i,j,m,-⟩:=CK d (CJ w x) (by simpa using t) (by simp;omega) f;exact⟨w',_,i,⟨a,b,rfl,j⟩,((qG base w).alloc q _).trans (qXq m (by simp;omega) (fun k r=>(vf.block d k r).1))⟩
end
section
open Go.RowKit Go.Shelf
theorem Jm{w:World}{base n c k:Nat}{A:Option Addr}{L:List LvS}(h:jl w base (.slice A n c) L)(f:n=L.length)(m:k<=n):jl w base (.slice A k c) (L.take k)/\sliced A 0 k c 1=.slice A k c/\k<=c:=by
 subst f;have b:(L.take k).length=k:=by rw[qT];omega
 rcases h.2 with⟨d,u⟩|⟨g,t,a,d,j,l,f,o,q,r⟩
 ·obtain⟨rfl,-,rfl⟩:=Value.slice.inj d;obtain rfl:k=0:=by omega
  rw[List.take_zero];exact⟨jl.nil _ _,rfl,qK _⟩
 ·obtain⟨rfl,-,rfl⟩:=Value.slice.inj d;refine⟨⟨?_,qY ⟨g,c,a,by rw[b],j,l,by rw[b];omega,o,q, ?_⟩⟩, ?_,by omega⟩
  ·unfold gH;rw[qq,Nat.mul_one]
  ·rw[b];have i:a.toList.take (k*1)=(a.toList.take (L.length*1)).take (k*1):=(by rw[List.take_take,Nat.mul_one,Nat.mul_one,Nat.min_eq_left m]);rw[i,r];unfold gH;rw[List.map_take,Nat.mul_one]
  ·unfold sliced;by_cases y:c=0
   ·rw[qV (by omega)];simp
   ·rw[qZ (by omega)];simp[Addr.add]
theorem qXx{n c k:Nat}{A:Option Addr}(b:k<=c)(e:sliced A 0 k c 1=.slice A k c)(W:World):(Instr.slice 45 (.slice A n c) none (some (.int .i64 (k:Nat))) none).run prog W=.ok (.slice A k c) W:=by
 have a:(sizeOf (prog.elem 45)).run prog W=.ok 1 W:=by simp[go_sem]
 rw[run_slice_h W _ _ _ c Tryz.underlying45 .i64 _ (by omega) (by omega),a];show Result.ok (sliced _ _ _ _ _) W=_;rw[qa,e]
def CY(w:World)(base:Nat)(M:List LvS)(e:Ending)(w':World):Prop:=∃A t c,e=.returned (.slice A t c)/\t=(jc (lvl M)).length/\vB w' base (.slice A t c) (jc (lvl M))/\w'=w
theorem qXz{R:LvL}{k:Nat}{x:List Int}(a:R[k]? = some x)(h:x.length≠0):kt R (k+1)=k+1:=by
 unfold kt;rw[qZ];rw[qj,a];exact fun e=>h (by rw[show x=[] from e];rfl)
theorem qXj{R:LvL}{k:Nat}{x:List Int}(a:R[k]? = some x)(h:x.length=0):kt R (k+1)=kt R k:=by
 rw[kt,qV];rw[qj,a];exact xK.1 h
theorem qXk{w:World}{base n c k:Nat}{A:Option Addr}{M:List LvS}(h:jl w base (.slice A n c) M)(d:ub w base M)(a:n=M.length)(b:k=kt (lvl M) n):
  k=(jc (lvl M)).length/\vB w base (.slice A k c) (jc (lvl M)):=by
 have f:=sa (lvl M) n;have e:jc (lvl M)=(lvl M).take k:=by unfold jc;rw[gh,<-a,b]
 refine⟨by rw[e,qT,gh];omega,M.take k,(Jm h a (by omega)).1,d.take k,by rw[e,Kf]⟩
theorem qXv(A:Option Addr)(n c base:Nat)(M:List LvS)(w:World)(h:jl w base (.slice A n c) M)(z:ub w base M)(i:n=M.length)(T:n<=100000):
  Calls prog 118 #[.slice A n c] w (CY w base M):=by
 have B:=qQ (fun k (d:k=kt (lvl M) n)=>qXk h z i d);have P:=qQ (fun k m (d:k<=n) W=>qXx (n:=m) (Jm h i d).2.2 (Jm h i d).2.1 W)
 have L:Hid (∀j,j<n->∃g l m o,A=some ⟨g,0,none⟩/\w.cell? ⟨g,j,none⟩=some (.slice l m o)/\(m≠0->kt (lvl M) (j+1)=j+1)/\(m=0->kt (lvl M) (j+1)=kt (lvl M) j)):=qQ fun j S=>by
  obtain⟨g,rfl,-,-,-⟩:=jl.some_ h (by omega);obtain⟨y,r⟩:∃y,M[j]? = some y:=⟨_,qE (by omega)⟩
  obtain⟨c1,-⟩:=jl.cell h i r;obtain⟨l,o,e⟩:=(z y (qN r)).slice;rw[e]at c1;exact⟨g,l,_,o,rfl,c1,fun h=>qXz (sw r) h,fun h=>qXj (sw r) h⟩
 unfold CY;generalize (jc (lvl M)).length=tl at*;generalize jc (lvl M)=Q at*;clear h z i;generalize G:kt (lvl M)=f at*;have O:=qQ (show f 0=0 by rw[<-G];rfl);clear G;go_enter func118,ntmps118;go_wp2;go_loopw [0] (fun u wr=>∃k:Nat,k<=n/\u=.slice A k c/\f k=f n/\wr=w) (fun u _=>match u with | .slice _ k _=>k|_=>0)
 case atStart=>exact⟨n,qK _,rfl,rfl,rfl⟩
 case round =>
  obtain⟨k,d,rfl,H,rfl⟩:=hrel;have t:=qQ H;clear H;cases k with
  | zero =>
    obtain⟨b,a⟩:=B.out 0 (by rw[<-t.out,O.out]);have I:=qQ a;clear a;go_wp2;go_ret;exact⟨_,_,_,rfl,b,I.out,rfl⟩
  | succ j =>
    obtain⟨g,l,m,o,rfl,c1,b,a⟩:=L.out j (by omega);have V:decide ((0:Int)<((j+1:Nat):Int))=true:=qB (by omega);have X:IntKind.i64.wrap (((j+1:Nat):Int)-1)=(j:Int):=(by rw[qz _ ⟨by omega,by omega⟩];omega);have Y:(j:Int)<((j+1:Nat):Int):=(by omega);by_cases q:m=0
    ·subst q;have N:=qQ ((a rfl).symm.trans t.out);have U:=fun W=>P.out j (j+1) (by omega) W
     clear b a;go_wp2;exact⟨⟨j,by omega,rfl,N.out,trivial⟩,by simp⟩
    ·obtain⟨C,F⟩:=B.out (j+1) (by rw[<-t.out,b q]);have Z:(((m:Nat):Int)==0)=false:=qg.2 (by omega);have q5:(m==0)=false:=qg.2 q;have J:=qQ C;have K:=qQ F;clear b a C F q;go_wp2;go_ret;exact⟨_,_,_,rfl,J.out,K.out,rfl⟩
def br(w:World)(g:Nat)(L:LvL)(wr:World):Prop:=∃M,jl wr w.1.size (.slice (some ⟨g,0,none⟩) 5 5) M/\ub wr w.1.size M/\oX M/\lvl M=L/\L.length=5/\Below w.1.size w wr
theorem bD.rows{w wr:World}{g:Nat}{R:LvL}(h:bD w g 5 R R.length wr)(i:R.length<=5):br w g (vA R) wr:=by
 obtain⟨M,a,b,c,d,f⟩:=h;exact⟨M,a,b,c,d.trans (qXR R),pR i,f⟩
theorem br.at_{w wr:World}{g k:Nat}{L:LvL}(h:br w g L wr)(m:k<5):∃A c,wr.cell? ⟨g,k,none⟩=some (.slice A (L.getD k []).length c)/\wr.frozen? ⟨g,k,none⟩=false/\jy wr w.1.size (.slice A (L.getD k []).length c) (L.getD k []):=by
 obtain⟨M,f,i,j,rfl,d,l⟩:=h;rw[gh]at d;obtain⟨y,b⟩:∃y,M[k]? = some y:=⟨_,qE (by omega)⟩
 obtain⟨c1,c2⟩:=jl.cell f d.symm b;have a:=i y (qN b);obtain⟨A,c,e⟩:=a.slice;rw[e]at c1 a;rw[XH b];exact⟨A,c,c1,c2,a⟩
theorem br.drop{w wr:World}{g k:Nat}{L:LvL}(h:br w g L wr)(u:k<5):br w g (L.set k []) (wr.setCell ⟨g,k,none⟩ (.slice none 0 0)):=by
 obtain⟨M,b,i,l,rfl,c,m⟩:=h;rw[gh]at c;obtain⟨f,e,d,r,-⟩:=jl.some_ b (by omega);obtain rfl:g=f:=by cases e;rfl
 refine⟨M.set k fO,jl.put b c.symm fO,fun y a=>?_,l.set fun q o j y t a z=>(by cases o),p8 _ _ _,by rw[List.length_set,gh,c],m.setCell d _⟩;rcases List.mem_or_eq_of_mem_set a with a|rfl
 ·exact jy.xx (i y a) b
 ·exact jy.nil _ _
theorem br.put{w wr:World}{g k:Nat}{L:LvL}(h:br w g L wr)(hk:k<5)(hl:(L.getD k []).length<=100000)(x:Int)(Y:TypeId):
  ∃G m c0 A c w2,wr.cell? ⟨g,k,none⟩=some (.slice G m c0)/\(Builtin.append_ #[37,37] Y #[.slice G m c0,.slice (some ⟨wr.1.size,0,none⟩) 1 1]).run prog (wr.alloc (.cells #[x] 3))=.ok (.slice A (m+1) c) w2 /\
   (∃u,w2.cell? ⟨g,k,none⟩=some u)/\w2.frozen? ⟨g,k,none⟩=false/\br w g (ug L k x) (w2.setCell ⟨g,k,none⟩ (.slice A (m+1) c)):=by
 obtain⟨M,O,P,Q,rfl,B,I⟩:=h;rw[gh]at B;obtain⟨y,o⟩:∃y,M[k]? = some y:=⟨_,qE (by omega)⟩
 obtain⟨c1,c2⟩:=jl.cell O B.symm o;have S:=P y (qN o);obtain⟨G,c0,e⟩:=S.slice;rw[XH o]at hl;have r:=(qG wr.1.size wr).alloc (qK _) (.cells #[x] 3);have V:=jy.below S r (qK _);obtain⟨A,c,w2,K,T,N,a⟩:=XD (m:=[x]) V (Fu wr x) (by simp;omega) (qR I.size r.size) Y;have H:=jl.grown (jl.below O r (qK _)) V N
 have aa:∀z∈M,z.v.ownBlock≠y.v.ownBlock∨z.v.ownBlock=none->jy w2 w.1.size z.v z.l:=fun z t d =>
  cQ (jy.below (P z t) r (qK _)) (F:=y.v.ownBlock.toList) (jP.grown (jP.refl _ _) N (fun q C=>qX (by rw[C];simp))) (fun b J hm=>by
   rcases d with d|d
   ·exact d (by rw[J];have:y.v.ownBlock=some b:=(by simpa using hm);rw[this])
   ·rw[J]at d;cases d)
 obtain⟨g',e',e1,U,-⟩:=jl.some_ O (by omega);obtain rfl:g=g':=by cases e';rfl
 obtain⟨Z,d2⟩:=jl.cell H B.symm o;have ac:y.l.length+[x].length=y.l.length+1:=rfl;rw[ac]at K T a;rw[e]at c1 K;have ab:Below w.1.size w w2:=(I.alloc I.size _).trans (si N (qR I.size r.size) (fun q C=>(jy.block S q C).1));refine⟨G,y.l.length,c0,A,c,w2,c1,K,⟨_,Z⟩,d2,M.set k ⟨.slice A (y.l.length+1) c,y.l++[x]⟩,jl.put H B.symm _,fun z t=>?_,Q.set fun q C j z hj t X=>?_, ?_,by rw[XC,gh,B],ab.setCell e1 _⟩
 ·obtain⟨i,f⟩:=ql t;rw[List.getElem?_set]at f;split at f
  ·split at f
   ·obtain rfl:(⟨.slice A (y.l.length+1) c,y.l++[x]⟩:LvS)=z:=(by simpa using f);exact jy.xx T H
   ·cases f
  ·rename_i d;refine jy.xx (aa z (qN f) ?_) H;cases J:z.v.ownBlock with
   | none=>exact qY rfl
   | some b=>exact qX (fun U=>Q i k z y f o (fun e3=>d e3.symm) b J U.symm)
 ·have W:(Value.slice A (y.l.length+1) c).ownBlock=some q:=C;rcases a with a|a
  ·rw[W]at a;exact Q j k z y t o hj q X a.symm
  ·rw[W]at a;have b1:=(jy.block (P z (qN t)) q X).2;have:q=(wr.alloc (.cells #[x] 3)).1.size:=(by injection a);have:=r.size;omega
 ·rw[p8];unfold ug;rw[XH o]
theorem br.row{w wr:World}{g:Nat}{L:LvL}(h:br w g L wr):∃M,jl wr w.1.size (.slice (some ⟨g,0,none⟩) 5 5) M/\ub wr w.1.size M/\5=M.length/\lvl M=L/\Below w.1.size w wr:=by
 obtain⟨M,a,b,f,rfl,c,d⟩:=h;exact⟨M,a,b,by rw[<-gh,c],rfl,d⟩
theorem br.trimmed{w wr:World}{g:Nat}{L:LvL}(h:br w g L wr):Calls prog 118 #[.slice (some ⟨g,0,none⟩) 5 5] wr fun e w'=>∃A c,e=.returned (.slice A (jc L).length c)/\vB w' w.1.size (.slice A (jc L).length c) (jc L)/\Below w.1.size w w':=by
 obtain⟨M,a,b,d,rfl,f⟩:=h.row;refine(qXv _ 5 5 _ M wr a b d (by omega)).mono ?_;rintro e w'⟨A,t,c,rfl,rfl,i,rfl⟩;exact⟨A,c,rfl,i,f⟩
def nT(w:World)(R:LvL)(k:Int)(e:Ending)(w':World):Prop:=∃A c,e=.returned (.tuple #[.slice A (kU R k).length c,.int .i64 (vH R k)])/\jy w' w.1.size (.slice A (kU R k).length c) (kU R k)/\Below w.1.size w w'
def dG(w:World)(T:LvL)(E:Int)(e:Ending)(w':World):Prop:=∃A c,e=.returned (.tuple #[.slice A T.length c,E])/\vB w' w.1.size (.slice A T.length c) T/\Below w.1.size w w'
theorem CU{R:LvL}{k:Int}(h:ye R=false∨k<0∨4<k):vH R k=2/\kU R k=[]:=by
 have e:vH R k=2:=by unfold vH;rw[qV h]
 exact⟨e,by unfold kU;rw[e];rfl⟩
theorem CG{R:LvL}{k:Int}(a:ye R=true)(b:0<=k)(c:k<=4)(h:(vA R).getD k.toNat []=[]):vH R k=4/\kU R k=[]:=by
 have e:vH R k=4:=by
  unfold vH;rw[qZ (by rintro (e|e|e);rw[a]at e;cases e;omega;omega),qV h]
 exact⟨e,by unfold kU;rw[e];rfl⟩
theorem qXy{R:LvL}{k:Int}{x:List Int}(b:ye R=true)(c:0<=k)(d:k<=4)(h:(vA R).getD k.toNat []=x)(a:x≠[]):vH R k=0/\kU R k=x:=by
 have e:vH R k=0:=by
  unfold vH;rw[qZ (by rintro (e|e|e);rw[b]at e;cases e;omega;omega),qZ (by rw[h];exact a)]
 exact⟨e,by unfold kU;rw[qV e,h]⟩
theorem Qv{w:World}{R:LvL}{k E:Int}(h:vH R k=E/\kU R k=[]):Hid (∀w',Below w.1.size w w'->nT w R k (.returned (.tuple #[.slice none 0 0,E])) w'):=qQ fun w' a=>by
 unfold nT;rw[h.1,h.2];exact⟨none,0,rfl,jy.nil _ _,a⟩
theorem qXu{w:World}{R:LvL}{k:Int}{x:List Int}(h:vH R k=0/\kU R k=x):Hid (∀A c w',jy w' w.1.size (.slice A x.length c) x->Below w.1.size w w'->nT w R k (.returned (.tuple #[.slice A x.length c,.int .i64 0])) w'):=qQ fun A c w' b a=>by
 unfold nT;rw[h.1,h.2];exact⟨A,c,rfl,b,a⟩
theorem sV{w:World}{T:LvL}{E E':Int}(a:E=E')(b:T=[]):Hid (∀w',Below w.1.size w w'->dG w T E (.returned (.tuple #[.slice none 0 0,E'])) w'):=qQ fun w' c=>by
 subst a b;exact⟨none,0,rfl,vB.nil _ _,c⟩
theorem CW{R:LvL}{n:Int}(h:ye R=false∨n<0∨n∈R.flatten):yU R n=2/\kL R n=[]:=by
 have e:yU R n=2:=by unfold yU;rw[qV h]
 exact⟨e,by unfold kL;rw[e];rfl⟩
theorem qXg{R:LvL}{n:Int}(a:ye R=true)(c:0<=n)(b:n ∉ R.flatten)(h:R.flatten.length=40):yU R n=60/\kL R n=[]:=by
 have e:yU R n=60:=by
  unfold yU;rw[qZ (by rintro (e|e|e);rw[a]at e;cases e;omega;exact b e),qV h]
 exact⟨e,by unfold kL;rw[e];rfl⟩
theorem qXb{R:LvL}{n:Int}(a:ye R=true)(c:0<=n)(b:n ∉ R.flatten)(h:R.flatten.length≠40):yU R n=0/\kL R n=jc (ug (vA R) 0 n):=by
 have e:yU R n=0:=by
  unfold yU;rw[qZ (by rintro (e|e|e);rw[a]at e;cases e;omega;exact b e),qZ h]
 exact⟨e,by unfold kL;rw[qV e]⟩
theorem qXc{R:LvL}{k n:Int}(h:vH R k≠0):yL R k n=vH R k/\kh R k n=[]:=by
 have e:yL R k n=vH R k:=by unfold yL;rw[qV h]
 exact⟨e,by unfold kh;rw[qZ (by rw[e];exact h)]⟩
theorem qXd{R:LvL}{k n:Int}(h:vH R k=0)(a:n<0∨n∈R.flatten):yL R k n=2/\kh R k n=[]:=by
 have e:yL R k n=2:=by unfold yL;rw[qZ (by rw[h];exact fun h=>h rfl),qV a]
 exact⟨e,by unfold kh;rw[e];rfl⟩
theorem qXf{R:LvL}{k n:Int}(h:vH R k=0)(b:0<=n)(a:n ∉ R.flatten):yL R k n=0/\kh R k n=jc (ug ((vA R).set k.toNat []) (toL k.toNat) n):=by
 have e:yL R k n=0:=by unfold yL;rw[qZ (by rw[h];exact fun h=>h rfl),qZ (by rintro (e|e);omega;exact a e)]
 exact⟨e,by unfold kh;rw[qV e]⟩
theorem qXh{R:LvL}(h:ye R=true):R.length<=5/\R.flatten.length<=40:=⟨(of_decide_eq_true h).1,(of_decide_eq_true h).2.1⟩
theorem qXl{R:LvL}(h:R.flatten.length<=100000)(k:Nat):(R.getD k []).length<=100000:=by
 rw[qj];cases a:R[k]? with
 | none=>exact qI _
 | some x=>have:=om a;exact qR this h
theorem qXm{R:LvL}(h:∀k,(R.getD k []).length<=100000)(i k:Nat):((R.set i []).getD k []).length<=100000:=by
 rw[qj,List.getElem?_set];split
 ·split
  ·exact qI _
  ·exact qI _
 ·have:=h k
  rwa [qj]at this
theorem sY{R:LvL}{n:Int}{W wr:World}{g:Nat}(z:∀i k,(((vA R).set i []).getD k []).length<=100000)(h:br W g (vA R) wr)(i t:Nat)(hi:i<5)(A:t<5):
  ∃u0 c a c0 d f b u,wr.cell? ⟨g,i,none⟩=some u0/\wr.frozen? ⟨g,i,none⟩=false/\(wr.setCell ⟨g,i,none⟩ (.slice none 0 0)).cell? ⟨g,t,none⟩=some (.slice c a c0) /\
   (Builtin.append_ #[37,37] 37 #[.slice c a c0,.slice (some ⟨wr.1.size,0,none⟩) 1 1]).run prog ((wr.setCell ⟨g,i,none⟩ (.slice none 0 0)).alloc (.cells #[n] 3))=.ok (.slice d (a+1) f) b /\
   b.cell? ⟨g,t,none⟩=some u/\b.frozen? ⟨g,t,none⟩=false/\br W g (ug ((vA R).set i []) t n) (b.setCell ⟨g,t,none⟩ (.slice d (a+1) f)):=by
 obtain⟨C,F,r,y,-⟩:=h.at_ (k:=i) hi;obtain⟨c,a,c0,d,f,b,l,j,⟨u,m⟩,o,q⟩:=(h.drop (k:=i) hi).put (k:=t) A (z _ _) n 37;have B:(wr.setCell ⟨g,i,none⟩ (.slice none 0 0)).1.size=wr.1.size:=by simp[World.setCell]
 rw[B]at j;exact⟨_,c,a,c0,d,f,b,u,r,y,l,j,m,o,q⟩
end
end Go.Proofs.YthejglbnkmimjaaGreat

import Derived.Test.YthejglbnkmimjaaGreatPp12
import Derived.Test.YthejglbnkmimjaaGreatPp14
import Derived.Lib.OwnBridge
import Derived.Lib.AppendZeros
set_option linter.unusedVariables false
set_option maxRecDepth 100000
set_option maxHeartbeats 9000000
namespace Go.Proofs.YthejglbnkmimjaaGreat
open Tryz
section
open Go.RowKit Go.Shelf
def VY(l:List Int)(x:Int)(w:World)(e:Ending)(w':World):Prop:=(∃k:Int,e = .returned (.int .i64 k)/\decide (0<=k)=decide (x∈l))/\w'=w
theorem OG(v:Value)(l:List Int)(x:Int)(w:World)(h:ju w v l)(u:l.length<=1000000):Calls prog 184 #[v,.int .i64 x] w (VY l x w):=by
 obtain⟨A,off,B,rfl,-,p⟩:=h.form;have s:=qQ p;obtain⟨n,f⟩:∃n,n=l.length:=⟨_,rfl⟩
 have j:=qQ f;rw[<-f]at u ⊢;clear h p f;go_enter func184,ntmps184;go_wp2;go_loopw [8] (fun i wr=>∃k:Nat,k<=n/\i = .int .i64 k/\x ∉ l.take k/\wr=w) (fun i _=>n-(intOf i).toNat)
 case atStart=>exact⟨0,qH _,rfl,by simp,rfl⟩
 case round =>
  obtain⟨k,D,rfl,r,rfl⟩:=hrel;have m:=qQ r;clear r;by_cases q:k<n
  ·have z:(k:Int)<(n:Int):=(by omega);obtain⟨y,g⟩:∃y,l[k]? = some y:=⟨_,qD (by rw[<-j.out];exact q)⟩
   obtain⟨b,rfl,C,c1⟩:=s.out k y g;have o:=qQ g;clear g;by_cases c:x=y
   ·subst c;have e:(x==x)=true:=(by simp);have d:=qQ (qO o.out);go_wp2;go_ret;exact⟨⟨_,rfl,by rw[qW d.out];exact qW (by omega)⟩,rfl⟩
   ·have e:(x==y)=false:=qy.2 c;have t:=qQ c;clear c;go_wp2;refine⟨⟨k+1,by omega,by go_num, ?_,trivial⟩,by simp[intOf];omega⟩;rw[List.take_add_one,o.out];intro a;rcases qC.1 a with a|a
    ·exact m.out a
    ·exact t.out (by simpa using a)
  ·obtain rfl:k=n:=(by omega);have z:¬(k:Int)<(k:Int):=(by omega);have d:=qQ (show x ∉ l by have h:=m.out;rwa [j.out,List.take_length]at h);clear q;go_wp2;go_ret;exact⟨⟨-1,rfl,by rw[qG d.out];rfl⟩,rfl⟩
theorem OW(v:Value)(l:List Int)(x:Int)(w:World)(h:ju w v l)(b:l.length<=1000000):Calls prog 120 #[v,.int .i64 x] w fun e w'=>e = .returned (.bool (decide (x∈l)))/\w'=w:=by
 have H:=qQ (OG v l x w h b);clear h b;unfold VY at H;generalize decide (x∈l)=q at*;go_enter func120,ntmps120;go_wp2_with fail;refine H.out.mono ?_;rintro e w'⟨⟨k,rfl,a⟩,rfl⟩;have c:=qQ a;clear a;go_wp2;go_ret;exact⟨by rw[<-c.out];rfl,rfl⟩
theorem VU(n:Nat):(Builtin.zeroCells (Value.int .i64 0).cells n).size=n:=by
 unfold Builtin.zeroCells;rw[Array.size_map,Array.size_range];exact Nat.mul_one n
theorem OA(n:Nat)(w:World)(v:n<=1000000):Calls prog 56 #[.slice none 0 0,.int .i64 (n:Nat)] w fun e w'=>∃A c,e = .returned (.slice A 0 c)/\jP w' w.heap.size (.slice A 0 c) []/\Below w.heap.size w w':=by
 by_cases b:n=0
 ·subst b;go_enter func56,ntmps56;go_wp2;go_ret;exact⟨none,0,rfl,jP.nil _ _,Below.refl _ _⟩
 ·obtain⟨u,i,l,m,o⟩:=info_parts ny;have a:=Lib.run_append_nil_zeros (P:=prog) w 37 3 37 3 u _ .i64 .i64 Tryz.underlying37 Tryz.underlying3 i l n (by omega) (by rw[m];decide) (by omega) (by rw[o];omega);have s:=grownCap_ge w n 0 3;have f:=grownCap_le_maxLen w n 0 3 (by unfold maxLen;omega);generalize grownCap w n 0 3=c at*;generalize g:Builtin.zeroCells (Value.int .i64 0).cells n++Builtin.zeroCells (Value.int .i64 0).cells (c-n)=cs at*;have k:cs.size=c*1:=by rw[<-g,Array.size_append,VU,VU];omega
  have d:Below w.heap.size w (w.drew.alloc (.cells cs 3)):=(Below.refl w.heap.size w).drew.alloc (qZ _) _
  have j:jP (w.drew.alloc (.cells cs 3)) w.heap.size (.slice (some ⟨w.heap.size,0,none⟩) 0 c) [] :=
   ⟨rfl,qY ⟨w.heap.size,c,cs,rfl,qZ _,za.new w.drew 3 cs,qH _,f,k,rfl⟩⟩
  have y:∀W,(Instr.slice 37 (.slice (some ⟨w.heap.size,0,none⟩) n c) none (some (.int .i64 0)) none).run prog W = .ok (.slice (some ⟨w.heap.size,0,none⟩) 0 c) W:=fun W=>by
   have t:(sizeOf (prog.elem 37)).run prog W = .ok 1 W:=(by simp[go_sem]);rw[run_slice_h W _ _ _ c Tryz.underlying37 .i64 _ (by omega) (by omega),t];show Result.ok (sliced _ _ _ _ _) W=_;unfold sliced;rw[qJ (by omega)];simp[Addr.add]
  have q:=qQ a;have r:=qQ j;have p:=qQ d;have z:(0:Int)<(n:Int):=by omega
  have B:decide ((n:Int)<0)=false:=qG (by omega);clear a j d k g s f i l m o b;go_enter func56,ntmps56;go_wp2_with (first | (at_builtin;refine yc rfl _ _ rfl rfl rfl q.out ?_) | fail);go_ret;exact⟨_,_,rfl,r.out,p.out⟩
theorem pO{R:LvL}{k:Nat}{x:List Int}(h:R[k]? = some x):(R.take (k+1)).flatten=(R.take k).flatten++x:=by
 rw[List.take_add_one,h,List.flatten_append];simp
theorem VG(R:LvL)(k:Nat):(R.take k).flatten.length<=R.flatten.length:=by
 conv=>rhs;rw[<-ql k R,List.flatten_append,qI]
 omega
theorem VW{R:LvL}{k:Nat}{x:List Int}(h:R[k]? = some x):x.length<=R.flatten.length:=by
 have a:=VG R (k+1);rw[pO h,qI]at a;omega
theorem jP.slice{w:World}{base:Nat}{v:Value}{l:List Int}(h:jP w base v l):∃A c,v = .slice A l.length c:=by
 obtain⟨A,c,rfl,-⟩:=v8 h;exact⟨A,c,rfl⟩
theorem OB{w wr:World}{u v:Value}{l m:List Int}(b:jP wr w.heap.size u l)(j:ju wr v m)(o:l.length+m.length<=1000000)(a:Below w.heap.size w wr)(d:TypeId):
  ∃A c w2,(Builtin.append_ #[37,37] d #[u,v]).run prog wr = .ok (.slice A (l.length+m.length) c) w2/\jP w2 w.heap.size (.slice A (l.length+m.length) c) (l++m)/\Below w.heap.size w w2:=by
 obtain⟨A,c,w2,f,g,i,-⟩:=KH b j o a.size d;exact⟨A,c,w2,f,g,a.trans (tR i a.size (fun k n=>(jP.block b k n).1))⟩
theorem OC(v:Value)(R:LvL)(w:World)(h:kQ w v R)(hl:R.flatten.length<=100000)(hL:R.length<=100000):Calls prog 29 #[v] w (bl w R.flatten):=by
 have C:=qQ (OA R.flatten.length w (by omega));have B:=qQ (VG R);have HH:=qQ h;obtain⟨A,off,ad,rfl,-,M⟩:=h.form;have z:=qQ M;obtain⟨n,y⟩:∃n,n=R.length:=⟨_,rfl⟩
 have r:=qQ y;rw[<-y]at hL ⊢;obtain⟨N,t⟩:∃N,N=R.flatten.length:=⟨_,rfl⟩
 have c:=qQ t;rw[<-t]at hl C;clear h M y t;unfold bl;rw[<-c.out];go_enter func29,ntmps29;go_wp2;go_loopw [3,11] (fun s i wr=>∃k:Nat,k<=n/\i = .int .i64 k/\s = .int .i64 (((R.take k).flatten.length:Nat):Int)/\wr=w) (fun _ i _=>n-(intOf i).toNat)
 case atStart=>exact⟨0,qH _,rfl,rfl,rfl⟩
 case round =>
  obtain⟨k,hk,rfl,rfl,rfl⟩:=hrel;by_cases O:k<n
  ·have l1:(k:Int)<(n:Int):=(by omega);obtain⟨x,a⟩:∃x,R[k]? = some x:=⟨_,qD (by rw[<-r.out];exact O)⟩
   obtain⟨b,u,rfl,J,c1,d⟩:=z.out k x a;obtain⟨Q,o2,c2,rfl,-,-⟩:=d.form;have Z:=qQ (show(((R.take (k+1)).flatten.length:Nat):Int)=(((R.take k).flatten.length:Nat):Int)+((x.length:Nat):Int) by rw[pO a,qI];omega);have ab:=B.out k;have ac:=VW a;rw[<-c.out]at ab ac;clear d a;generalize (R.take k).flatten.length=s at*;generalize x.length=m at*;have q1:decide (((s:Int)+(m:Int))<0)=false:=qG (by omega);have q2:IntKind.i64.wrap ((s:Int)+(m:Int))=(s:Int)+(m:Int):=IntWalk.i64_in _ ⟨by omega,by omega⟩;go_wp2;refine⟨⟨k+1,by omega,by go_num,by rw[Z.out],trivial⟩,by simp[intOf];omega⟩
  ·obtain rfl:k=n:=(by omega);have l1:¬(k:Int)<(k:Int):=(by omega);have I:(R.take k).flatten.length=N:=(by rw[r.out,List.take_length,<-c.out]);rw[I];clear I O;obtain⟨l,rfl⟩:∃l,l=wr:=⟨_,rfl⟩
   go_wp2_with fail;refine C.out.mono ?_;rintro e w1⟨A1,c1,rfl,f,K⟩;have Y:=qQ f;have U:=qQ K;clear f K;go_wp2;go_loopg [6,27] k (fun g u i wr=>∃(j:Nat),j+g=k/\i = .int .i64 j/\jP wr l.heap.size u (R.take j).flatten/\Below l.heap.size l wr)
   case atStart=>exact⟨0,by omega,rfl,Y.out,U.out⟩
   case round =>
    obtain⟨j,af,rfl,f,L⟩:=hrel;obtain⟨S,c3,rfl⟩:=f.slice;have o:=qQ f;have q:=qQ L;clear f L;cases gk with
    | zero =>
      obtain rfl:j=k:=(by omega);have s1:¬(j:Int)<(j:Int):=(by omega);have ej:(R.take j)=R:=(by rw[r.out];exact List.take_length);rw[ej]at o ⊢;rw[<-c.out]at o ⊢;go_wp2;go_ret;exact⟨S,c3,rfl,by have h:=o.out;rw[c.out]at h;rw[c.out];exact h,q.out⟩
    | succ gi =>
      have aa:j<k:=(by omega);have s1:(j:Int)<(k:Int):=(by omega);obtain⟨x,a⟩:∃x,R[j]? = some x:=⟨_,qD (by rw[<-r.out];exact aa)⟩
      obtain⟨b,u,rfl,J,D,d⟩:=z.out j x a;have ae:=(q.out.cell (p:=⟨b,off+j,none⟩) J).trans D;have P:=B.out (j+1);rw[pO a,qI,<-c.out]at P;obtain⟨T,c4,w2,F,G,H⟩:=OB o.out (d.below q.out (qZ _)) (by omega) q.out 37;obtain⟨Q,o2,c2,rfl,-,-⟩:=d.form;have W:=qQ (show jP w2 l.heap.size (.slice T ((R.take j).flatten.length+x.length) c4) (R.take (j+1)).flatten by rw[pO a];exact G);have X:=qQ H;have V:=qQ F;clear F G H D d a P o;generalize (R.take j).flatten.length=s at*;generalize x.length=m at*;go_wp2_with (first | (at_builtin;refine yc rfl _ _ rfl rfl rfl V.out ?_) | fail);go_roundg gi
      case measure=>omega
      case rel=>exact⟨j+1,by omega,by go_num,W.out,X.out⟩
theorem OD(w:World)(a:Array Obj):Below w.heap.size w (Sort.grow w a):=⟨rfl,rfl,rfl,by simp,fun k b=>Sort.heap_grow_old w a b⟩
theorem OE(w:World)(base n c:Nat)(A:Option Addr)(l:List Int)(h:jP w base (.slice A n c) l)(m:n=l.length)(z:n<=1000000):
  Calls prog 183 #[.slice A n c] w fun e w'=>e = .returned (.tuple #[])/\jP w' base (.slice A n c) (vq l)/\Below base w w':=by
 subst m;by_cases o:(Value.slice A l.length c) = .slice none 0 0
 ·obtain⟨rfl,p,rfl⟩:=Value.slice.inj o;have u:l=[]:=List.length_eq_zero_iff.1 p;subst u;refine(AnyM.slices_Sort_int_none Tryz.isort none 0 w).mono ?_;rintro e w'⟨rfl,rfl⟩;exact⟨rfl,by rw[show vq []=[] by(unfold vq;simp)];exact jP.nil _ _,Below.refl _ _⟩
 ·obtain⟨g,y,t,i,j,m,B,-,s⟩:=Lib.holds_of_ownsRow (enc:=Value.int .i64) h o;obtain⟨rfl,-,rfl⟩:=Value.slice.inj t;refine(AnyM.slices_Sort_int Tryz.isort g 0 c l w s j (by omega)).mono ?_;rintro e w'⟨rfl,q,v,rfl⟩;have a:=Lib.ownsRow_putRow (enc:=Value.int .i64) (q:=q) (k:=l.length) (ys:=vq l) h (mQ l) (qZ _);rw[qg (by rw[mQ];exact qZ _)]at a;have f:=Lib.below_putRow (enc:=Value.int .i64) (q:=q) (d:=(vq l).toArray) (Below.refl base w) i;have b:=OD (Sort.putRow (Value.int .i64) (Sort.ahead w q) g 0 (vq l).toArray) v;refine⟨rfl, ?_, ?_⟩
  ·have r:jP (Sort.putRow (Value.int .i64) (Sort.ahead w q) g 0 (vq l).toArray) base (.slice (some ⟨g,0,none⟩) l.length c) (vq l):=by
    unfold jP;rw[mQ];exact a
   exact jP.below r b (qZ _)
  ·exact f.trans (b.mono (qR (qR i (Nat.le_of_lt j)) f.size))
theorem pP(v:Value)(R:LvL)(w:World)(h:kQ w v R)(f:R.flatten.length<=100000)(d:R.length<=100000):Calls prog 10 #[v] w (bl w R.flatten):=by
 have H:=qQ (OC v R w h f d);clear h f d;unfold bl at H ⊢;generalize R.flatten=l at*;go_enter func10,ntmps10;go_wp2_with fail;refine H.out.mono ?_;rintro e j⟨A,c,rfl,a,b⟩;have g:=qQ a;have i:=qQ b;clear a b;go_wp2;go_ret;exact⟨A,c,rfl,g.out,i.out⟩
theorem VA{R:LvL}(h:5<R.length∨40<R.flatten.length):du R=false:=qG fun a=>by have:=a.1;have:=a.2.1;omega
theorem OF{R:LvL}(a:R.length<=5)(b:R.flatten.length<=40):du R=true↔dg (vq R.flatten) R.flatten.length:=by
 have h:=Yv R.flatten;rw[mQ]at h;rw[h];exact⟨fun e=>(of_decide_eq_true e).2.2,fun e=>qW ⟨a,b,e.1,e.2⟩⟩
theorem VB{s:List Int}{k:Nat}{x:Int}(h:dg s k)(a:s[k]? = some x)(d:0<=x)(f:∀j y,k=j+1->s[j]? = some y->x≠y):dg s (k+1):=by
 intro i g;rcases Nat.lt_or_ge i k with c|c
 ·exact h i c
 ·obtain rfl:i=k:=by omega
  refine⟨by rw[qu,a];exact d,fun m=>?_⟩;have l:i<s.length:=(qM.1 a).1;obtain⟨y,b⟩:∃y,s[i-1]? = some y:=⟨_,qD (by omega)⟩
  rw[qu,a,qu,b];exact f (i-1) y (by omega) b
theorem OH{s:List Int}{k m:Nat}{x:Int}(b:s[k]? = some x)(a:k<m)(c:x<0):¬dg s m:=fun h=>by
 have:=(h k a).1;rw[qu,b]at this;have:0<=x:=this;omega
theorem OI{s:List Int}{k m:Nat}{x:Int}(b:s[k+1]? = some x)(c:s[k]? = some x)(a:k+1<m):¬dg s m:=fun h=>by
 have:=(h (k+1) a).2 (by omega);rw[qu,b,Nat.add_sub_cancel,qu,c]at this;exact this rfl
theorem OL(v:Value)(R:LvL)(w:World)(h:kQ w v R)(r:R.flatten.length<=100000)(f:R.length<=100000):
  Calls prog 115 #[v] w fun e w'=>e = .returned (.bool (du R))/\Below w.heap.size w w':=by
 have H:=qQ (pP v R w h r f);obtain⟨A0,o0,c0,rfl,-,-⟩:=h.form;unfold bl at H;clear h;by_cases g:5<R.length
 ·rw[VA (qX g)];obtain⟨n,d⟩:∃n,n=R.length:=⟨_,rfl⟩
  rw[<-d]at H g f ⊢;clear d;generalize R.flatten=l at*;have q1:decide ((5:Int)<(n:Int))=true:=qW (by omega);have q2:decide (5<n)=true:=qW g;clear r f;go_enter func115,ntmps115;go_wp2_with fail;refine H.out.mono ?_;rintro e w'⟨A,c,rfl,o,a⟩;have t:=qQ a;clear o a;go_wp2;go_ret;exact⟨rfl,t.out⟩
 ·by_cases p:40<R.flatten.length
  ·rw[VA (qY p)];obtain⟨n,d⟩:∃n,n=R.length:=⟨_,rfl⟩
   rw[<-d]at H g f ⊢;clear d;obtain⟨m,B⟩:∃m,m=R.flatten.length:=⟨_,rfl⟩
   rw[<-B]at H p r;clear B;generalize R.flatten=l at*;have q1:decide ((5:Int)<(n:Int))=false:=qG (by omega);have q2:decide (5<n)=false:=qG (by omega);have q3:decide ((40:Int)<(m:Int))=true:=qW (by omega);have q4:decide (40<m)=true:=qW p;clear r f g p;go_enter func115,ntmps115;go_wp2_with fail;refine H.out.mono ?_;rintro e w'⟨A,c,rfl,o,a⟩;have t:=qQ a;clear o a;go_wp2;go_ret;exact⟨rfl,t.out⟩
  ·have C:=qQ (OF (R:=R) (by omega) (by omega));obtain⟨n,d⟩:∃n,n=R.length:=⟨_,rfl⟩
   rw[<-d]at H g f ⊢;clear d;have M:=qQ (mQ R.flatten);have T:=qQ (fun W A c (hr:jP W w.heap.size (.slice A R.flatten.length c) R.flatten)=>OE W w.heap.size R.flatten.length c A R.flatten hr rfl (by omega));obtain⟨m,B⟩:∃m,m=R.flatten.length:=⟨_,rfl⟩
   rw[<-B]at H p r C M T;clear B;generalize hq:du R=q at*;clear hq;generalize hs:vq R.flatten=s at*;clear hs;generalize R.flatten=l at*;have q1:decide ((5:Int)<(n:Int))=false:=qG (by omega);have q2:decide (5<n)=false:=qG (by omega);have q3:decide ((40:Int)<(m:Int))=false:=qG (by omega);have q4:decide (40<m)=false:=qG (by omega);have ad:m<=40:=(by omega);clear r f g p;go_enter func115,ntmps115;go_wp2_with fail;refine H.out.mono ?_;rintro e w1⟨A,c,rfl,o,a⟩;have t:=qQ a;have ab:=qQ (T.out w1 A c o);clear o a;go_wp2_with fail;refine ab.out.mono ?_;rintro e w2⟨rfl,Y,Z⟩;have J:=qQ (show Below w.heap.size w w2 from t.out.trans Z);have aa:=jP.qw Y;obtain⟨A',off,ac,X,-,hc⟩:=aa.form;obtain⟨rfl,-,rfl⟩:=Value.slice.inj X;have S:=qQ hc;clear Y Z aa X hc;go_wp2;go_loopw [20] (fun i wr=>∃k:Nat,k<=m/\i = .int .i64 k/\dg s k/\wr=w2) (fun i _=>m-(intOf i).toNat)
   case atStart=>exact⟨0,qH _,rfl,fun i hi=>(by omega),rfl⟩
   case round =>
    obtain⟨k,hk,rfl,hst,rfl⟩:=hrel;have N:=qQ hst;clear hst;by_cases G:k<m
    ·have l1:(k:Int)<(m:Int):=(by omega);obtain⟨x,O⟩:∃x,s[k]? = some x:=⟨_,qD (by rw[M.out];exact G)⟩
     obtain⟨b,rfl,hb,cx⟩:=S.out k x O;have D:=qQ O;clear O hb;by_cases u:x<0
     ·have L:=qQ (OH D.out G u);have Q:q=false:=by cases q with | true=>exact absurd (C.out.1 rfl) L.out | false=>rfl
      subst Q;have q5:decide (x<0)=true:=qW u;go_wp2;go_ret;exact⟨rfl,J.out⟩
     ·have q5:decide (x<0)=false:=qG u;have F:0<=x:=(by omega);cases k with
      | zero =>
        have K:=qQ (VB N.out D.out F (fun j y e=>by omega));rw[Nat.add_zero]at cx;clear u F;go_wp2;refine⟨⟨1,by omega,rfl,K.out,trivial⟩,by simp[intOf];omega⟩
      | succ j =>
        obtain⟨y,P⟩:∃y,s[j]? = some y:=⟨_,qD (by rw[M.out];omega)⟩
        obtain⟨b',V,-,cy⟩:=S.out j y P;obtain rfl:b=b':=(by cases V;rfl);have U:=qQ P;have q6:decide ((0:Int)<((j+1:Nat):Int))=true:=qW (by omega);have q7:IntKind.i64.wrap (((j+1:Nat):Int)-1)=(j:Int):=(by rw[IntWalk.i64_in _ ⟨by omega,by omega⟩];omega);have q8:(j:Int)<(m:Int):=(by omega);clear P V;by_cases I:x=y
        ·subst I;have L:=qQ (OI D.out U.out G);have Q:q=false:=by cases q with | true=>exact absurd (C.out.1 rfl) L.out | false=>rfl
         subst Q;go_wp2;go_ret;exact⟨rfl,J.out⟩
        ·have K:=qQ (VB N.out D.out F (fun i z e hz=>by
          obtain rfl:i=j:=(by omega);rw[U.out]at hz;obtain rfl:y=z:=(by simpa using hz);exact I))
         have q9:(x==y)=false:=qy.2 I;clear u F I;go_wp2;refine⟨⟨j+1+1,by omega,by go_num,K.out,trivial⟩,by simp[intOf];omega⟩
    ·obtain rfl:k=m:=(by omega);have l1:¬(k:Int)<(k:Int):=(by omega);have qt:q=true:=C.out.2 N.out;subst qt;clear G;go_wp2;go_ret;exact⟨rfl,J.out⟩
theorem OM{R:LvL}{k:Nat}{x:List Int}(a:R[k]? = some x)(h:x.length≠0):kP R (k+1)=k+1:=by
 unfold kP;rw[qJ];rw[qu,a];exact fun e=>h (by rw[show x=[] from e];rfl)
theorem ON{R:LvL}{k:Nat}{x:List Int}(a:R[k]? = some x)(h:x.length=0):kP R (k+1)=kP R k:=by
 rw[kP,qK];rw[qu,a];exact List.length_eq_zero_iff.1 h
theorem kQ.take{w:World}{n c k:Nat}{A:Option Addr}{R:LvL}(h:kQ w (.slice A n c) R)(g:n=R.length)(r:k<=n):
  kQ w (.slice A k c) (R.take k)/\(0<n->sliced A 0 k c 1 = .slice A k c/\k<=c):=by
 obtain⟨M,⟨j,l⟩,rfl⟩:=h;rw[lF]at g;subst g;have q:cz w (M.take k):=fun x d=>l x (List.mem_of_mem_take d)
 have s:(M.take k).length=k:=by rw[qq];omega
 rcases j with⟨rfl,a,u,f⟩|⟨b,off,v,f,z,m,o,p⟩
 ·obtain⟨rfl,-,rfl⟩:=Value.slice.inj f;have t:k=0:=by simpa using r
  subst t;exact⟨⟨[],⟨qX ⟨rfl,_,_,rfl⟩,fun x d=>(by cases d)⟩,rfl⟩,fun h=>absurd h (by simp)⟩
 ·obtain⟨rfl,-,rfl⟩:=Value.slice.inj f;refine⟨⟨M.take k,⟨qY ⟨b,off,c,by rw[s],by omega,m,o,fun i x d=>?_⟩,q⟩,by rw[MH]⟩,fun y=>⟨?_,by omega⟩⟩
  ·rw[List.getElem?_take]at d;split at d
   ·exact p i x d
   ·cases d
  ·unfold sliced;rw[qJ (by omega)];simp[Addr.add]
theorem OO{n c k:Nat}{A:Option Addr}(b:k<=c)(e:sliced A 0 k c 1 = .slice A k c)(W:World):(Instr.slice 45 (.slice A n c) none (some (.int .i64 (k:Nat))) none).run prog W = .ok (.slice A k c) W:=by
 have a:(sizeOf (prog.elem 45)).run prog W = .ok 1 W:=by simp[go_sem]
 rw[run_slice_h W _ _ _ c Tryz.underlying45 .i64 _ (by omega) (by omega),a];show Result.ok (sliced _ _ _ _ _) W=_;rw[qh,e]
def pR(w:World)(t:Nat)(A:Option Addr)(c:Nat)(e:Ending)(w':World):Prop:=e = .returned (.slice A t c)/\w'=w
theorem VC{w:World}{n c k:Nat}{A:Option Addr}{R:LvL}(h:kQ w (.slice A n c) R)(a:n=R.length)(b:k=kP R n):
  k=(jI R).length/\kQ w (.slice A k c) (jI R):=by
 have d:=pt R n;have e:jI R=R.take k:=by unfold jI;rw[<-a,b]
 refine⟨by rw[e,qq];omega, ?_⟩;rw[e];exact(h.take a (by omega)).1
theorem OP{w:World}{n c:Nat}{A:Option Addr}{R:LvL}(h:kQ w (.slice A n c) R)(r:n=R.length):∀j,j<n->∃g off a m d,A=some ⟨g,off,none⟩/\w.cell? ⟨g,off+j,none⟩=some (.slice a m d)/\(m≠0->kP R (j+1)=j+1)/\(m=0->kP R (j+1)=kP R j):=by
 intro j q;obtain⟨o,off,p,i,-,k⟩:=h.form;obtain⟨rfl,-,rfl⟩:=Value.slice.inj i;obtain⟨y,f⟩:∃y,R[j]? = some y:=⟨_,qD (by omega)⟩
 obtain⟨b,u,rfl,-,c1,l⟩:=k j y f;obtain⟨a,s,d,rfl,-,-⟩:=l.form;exact⟨b,off,a,y.length,d,rfl,c1,OM f,ON f⟩
theorem OR(A:Option Addr)(n c:Nat)(R:LvL)(w:World)(h:kQ w (.slice A n c) R)(d:n=R.length)(D:n<=100000):
  Calls prog 271 #[.slice A n c] w (pR w (jI R).length A c):=by
 have p:=qQ (fun k (b:k=kP R n)=>(VC h d b).1);have z:=qQ (fun k m (b:k<=n) (a:0<n) W=>OO (n:=m) ((h.take d b).2 a).2 ((h.take d b).2 a).1 W);have t:=qQ (OP h d);unfold pR;generalize (jI R).length=L at*;clear h d;generalize q:kP R=f at*;have y:=qQ (show f 0=0 by rw[<-q];rfl);clear q;go_enter func271,ntmps271;go_wp2;go_loopw [0] (fun u wr=>∃k:Nat,k<=n/\u = .slice A k c/\f k=f n/\wr=w) (fun u _=>match u with | .slice _ k _=>k | _=>0)
 case atStart=>exact⟨n,qZ _,rfl,rfl,rfl⟩
 case round =>
  obtain⟨k,b,rfl,r,rfl⟩:=hrel;have i:=qQ r;clear r;cases k with
  | zero =>
    obtain rfl:=p.out 0 (by rw[<-i.out,y.out]);go_wp2;go_ret;exact⟨rfl,rfl⟩
  | succ j =>
    obtain⟨g,off,B,m,C,rfl,c1,l,o⟩:=t.out j (by omega);have G:decide ((0:Int)<((j+1:Nat):Int))=true:=qW (by omega);have H:IntKind.i64.wrap (((j+1:Nat):Int)-1)=(j:Int):=(by rw[IntWalk.i64_in _ ⟨by omega,by omega⟩];omega);have I:(j:Int)<((j+1:Nat):Int):=(by omega);by_cases a:m=0
    ·subst a;have v:=qQ ((o rfl).symm.trans i.out);have F:=fun W=>z.out j (j+1) (by omega) (by omega) W
     clear l o;go_wp2;exact⟨⟨j,by omega,rfl,v.out,trivial⟩,by simp⟩
    ·have s:=qQ (p.out (j+1) (by rw[<-i.out,l a]));have J:(((m:Nat):Int)==0)=false:=qy.2 (by omega);have K:(m==0)=false:=qy.2 a;clear l o a;go_wp2;go_ret;exact⟨by rw[<-s.out];rfl,rfl⟩
theorem OS(A:Option Addr)(n c:Nat)(R:LvL)(d:n=R.length)(g:n<=100000):∃a b,∀w,kQ w (.slice A n c) R ->
  Calls prog 271 #[.slice A n c] w (pR w (jI R).length a b)/\kQ w (.slice a (jI R).length b) (jI R) :=
 ⟨A,c,fun w h=>⟨OR A n c R w h d g,by
  obtain⟨e,f⟩:=VC h d rfl;rw[<-e];exact f⟩⟩
def lS: LvS:=⟨.slice none 0 0,[]⟩
theorem OT(n:Nat):(madeCells #[Value.slice none 0 0] (n*1)).toList=uz (List.replicate n lS):=by
 unfold uz;rw[List.map_replicate];apply List.ext_getElem?;intro i;rw[Array.getElem?_toList,List.getElem?_replicate];by_cases h:i<n
 ·rw[qK h];unfold madeCells;simp[h,Nat.mod_one,lS]
 ·rw[qJ h,Array.getElem?_eq_none (by rw[size_madeCells];omega)]
end
end Go.Proofs.YthejglbnkmimjaaGreat

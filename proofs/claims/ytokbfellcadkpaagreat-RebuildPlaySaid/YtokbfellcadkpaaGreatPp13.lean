import Derived.Test.YtokbfellcadkpaaGreatPp10
import Derived.Test.YtokbfellcadkpaaGreatPp12
import Derived.Lib.OwnBridge
import Derived.Lib.AppendZeros
set_option linter.unusedVariables false
set_option maxRecDepth 100000
set_option maxHeartbeats 9000000
namespace Go.Proofs.YtokbfellcadkpaaGreat
open Tryz
section
open Go.RowKit Go.Shelf
def BV(l:List Int)(x:Int)(w:World)(e:Ending)(w':World):Prop:=(∃k:Int,e = .returned (.int .i64 k)/\decide (0<=k)=decide (x∈l))/\w'=w
theorem qQM(v:Value)(l:List Int)(x:Int)(w:World)(h:kX w v l)(u:l.length<=1000000):Calls prog 169 #[v,.int .i64 x] w (BV l x w):=by
 obtain⟨A,off,B,rfl,-,p⟩:=h.form;have s:=qQ p;obtain⟨n,f⟩:∃n,n=l.length:=⟨_,rfl⟩
 have j:=qQ f;rw[<-f]at u ⊢;clear h p f;go_enter func169,ntmps169;go_wp2;go_loopw [8] (fun i wr=>∃k:Nat,k<=n/\i = .int .i64 k/\x ∉ l.take k/\wr=w) (fun i _=>n-(intOf i).toNat)
 case atStart=>exact⟨0,qF _,rfl,by simp,rfl⟩
 case round =>
  obtain⟨k,D,rfl,r,rfl⟩:=hrel;have m:=qQ r;clear r;by_cases q:k<n
  ·have z:(k:Int)<(n:Int):=(by omega);obtain⟨y,g⟩:∃y,l[k]? = some y:=⟨_,qC (by rw[<-j.out];exact q)⟩
   obtain⟨b,rfl,C,c1⟩:=s.out k y g;have o:=qQ g;clear g;by_cases c:x=y
   ·subst c;have e:(x==x)=true:=(by simp);have d:=qQ (qM o.out);go_wp2;go_ret;exact⟨⟨_,rfl,by rw[qA d.out];exact qA (by omega)⟩,rfl⟩
   ·have e:(x==y)=false:=qv.2 c;have t:=qQ c;clear c;go_wp2;refine⟨⟨k+1,by omega,by go_num, ?_,trivial⟩,by simp[intOf];omega⟩;rw[List.take_add_one,o.out];intro a;rcases qB.1 a with a|a
    ·exact m.out a
    ·exact t.out (by simpa using a)
  ·obtain rfl:k=n:=(by omega);have z:¬(k:Int)<(k:Int):=(by omega);have d:=qQ (show x ∉ l by have h:=m.out;rwa [j.out,List.take_length]at h);clear q;go_wp2;go_ret;exact⟨⟨-1,rfl,by rw[qW d.out];rfl⟩,rfl⟩
theorem QA(v:Value)(l:List Int)(x:Int)(w:World)(h:kX w v l)(b:l.length<=1000000):Calls prog 106 #[v,.int .i64 x] w fun e w'=>e = .returned (.bool (decide (x∈l)))/\w'=w:=by
 have H:=qQ (qQM v l x w h b);clear h b;unfold BV at H;generalize decide (x∈l)=q at*;go_enter func106,ntmps106;go_wp2_with fail;refine H.out.mono ?_;rintro e w'⟨⟨k,rfl,a⟩,rfl⟩;have c:=qQ a;clear a;go_wp2;go_ret;exact⟨by rw[<-c.out];rfl,rfl⟩
theorem BY(n:Nat):(Builtin.zeroCells (Value.int .i64 0).cells n).size=n:=by
 unfold Builtin.zeroCells;rw[Array.size_map,Array.size_range];exact Nat.mul_one n
theorem qQN(n:Nat)(w:World)(v:n<=1000000):Calls prog 210 #[.slice none 0 0,.int .i64 (n:Nat)] w fun e w'=>∃A c,e = .returned (.slice A 0 c)/\j4 w' w.heap.size (.slice A 0 c) []/\Below w.heap.size w w':=by
 by_cases b:n=0
 ·subst b;go_enter func210,ntmps210;go_wp2;go_ret;exact⟨none,0,rfl,j4.nil _ _,Below.refl _ _⟩
 ·obtain⟨u,i,l,m,o⟩:=info_parts sW;have a:=Lib.run_append_nil_zeros (P:=prog) w 96 3 96 3 u _ .i64 .i64 Tryz.underlying96 Tryz.underlying3 i l n (by omega) (by rw[m];decide) (by omega) (by rw[o];omega);have s:=grownCap_ge w n 0 3;have f:=grownCap_le_maxLen w n 0 3 (by unfold maxLen;omega);generalize grownCap w n 0 3=c at*;generalize g:Builtin.zeroCells (Value.int .i64 0).cells n++Builtin.zeroCells (Value.int .i64 0).cells (c-n)=cs at*;have k:cs.size=c*1:=by rw[<-g,Array.size_append,BY,BY];omega
  have d:Below w.heap.size w (w.drew.alloc (.cells cs 3)):=(Below.refl w.heap.size w).drew.alloc (qK _) _
  have j:j4 (w.drew.alloc (.cells cs 3)) w.heap.size (.slice (some ⟨w.heap.size,0,none⟩) 0 c) [] :=
   ⟨rfl,qY ⟨w.heap.size,c,cs,rfl,qK _,jY.new w.drew 3 cs,qF _,f,k,rfl⟩⟩
  have y:∀W,(Instr.slice 96 (.slice (some ⟨w.heap.size,0,none⟩) n c) none (some (.int .i64 0)) none).run prog W = .ok (.slice (some ⟨w.heap.size,0,none⟩) 0 c) W:=fun W=>by
   have t:(sizeOf (prog.elem 96)).run prog W = .ok 1 W:=(by simp[go_sem]);rw[run_slice_h W _ _ _ c Tryz.underlying96 .i64 _ (by omega) (by omega),t];show Result.ok (sliced _ _ _ _ _) W=_;unfold sliced;rw[qZ (by omega)];simp[Addr.add]
  have q:=qQ a;have r:=qQ j;have p:=qQ d;have z:(0:Int)<(n:Int):=by omega
  have B:decide ((n:Int)<0)=false:=qW (by omega);clear a j d k g s f i l m o b;go_enter func210,ntmps210;go_wp2_with (first | (at_builtin;refine yI rfl _ _ rfl rfl rfl q.out ?_) | fail);go_ret;exact⟨_,_,rfl,r.out,p.out⟩
theorem QB{R:LvL}{k:Nat}{x:List Int}(h:R[k]? = some x):(R.take (k+1)).flatten=(R.take k).flatten++x:=by
 rw[List.take_add_one,h,List.flatten_append];simp
theorem BU(R:LvL)(k:Nat):(R.take k).flatten.length<=R.flatten.length:=by
 conv=>rhs;rw[<-ql k R,List.flatten_append,qI]
 omega
theorem oS{R:LvL}{k:Nat}{x:List Int}(h:R[k]? = some x):x.length<=R.flatten.length:=by
 have a:=BU R (k+1);rw[QB h,qI]at a;omega
theorem j4.slice{w:World}{base:Nat}{v:Value}{l:List Int}(h:j4 w base v l):∃A c,v = .slice A l.length c:=by
 obtain⟨A,c,rfl,-⟩:=yw h;exact⟨A,c,rfl⟩
theorem qQO{w wr:World}{u v:Value}{l m:List Int}(b:j4 wr w.heap.size u l)(j:kX wr v m)(o:l.length+m.length<=1000000)(a:Below w.heap.size w wr)(d:TypeId):
  ∃A c w2,(Builtin.append_ #[96,96] d #[u,v]).run prog wr = .ok (.slice A (l.length+m.length) c) w2/\j4 w2 w.heap.size (.slice A (l.length+m.length) c) (l++m)/\Below w.heap.size w w2:=by
 obtain⟨A,c,w2,f,g,i,-⟩:=JX b j o a.size d;exact⟨A,c,w2,f,g,a.trans (QQ i a.size (fun k n=>(j4.block b k n).1))⟩
theorem qQP(v:Value)(R:LvL)(w:World)(h:jn w v R)(hl:R.flatten.length<=100000)(hL:R.length<=100000):Calls prog 168 #[v] w (bI w R.flatten):=by
 have C:=qQ (qQN R.flatten.length w (by omega));have B:=qQ (BU R);have HH:=qQ h;obtain⟨A,off,ad,rfl,-,M⟩:=h.form;have z:=qQ M;obtain⟨n,y⟩:∃n,n=R.length:=⟨_,rfl⟩
 have r:=qQ y;rw[<-y]at hL ⊢;obtain⟨N,t⟩:∃N,N=R.flatten.length:=⟨_,rfl⟩
 have c:=qQ t;rw[<-t]at hl C;clear h M y t;unfold bI;rw[<-c.out];go_enter func168,ntmps168;go_wp2;go_loopw [3,11] (fun s i wr=>∃k:Nat,k<=n/\i = .int .i64 k/\s = .int .i64 (((R.take k).flatten.length:Nat):Int)/\wr=w) (fun _ i _=>n-(intOf i).toNat)
 case atStart=>exact⟨0,qF _,rfl,rfl,rfl⟩
 case round =>
  obtain⟨k,hk,rfl,rfl,rfl⟩:=hrel;by_cases O:k<n
  ·have l1:(k:Int)<(n:Int):=(by omega);obtain⟨x,a⟩:∃x,R[k]? = some x:=⟨_,qC (by rw[<-r.out];exact O)⟩
   obtain⟨b,u,rfl,J,c1,d⟩:=z.out k x a;obtain⟨Q,o2,c2,rfl,-,-⟩:=d.form;have Z:=qQ (show(((R.take (k+1)).flatten.length:Nat):Int)=(((R.take k).flatten.length:Nat):Int)+((x.length:Nat):Int) by rw[QB a,qI];omega);have ab:=B.out k;have ac:=oS a;rw[<-c.out]at ab ac;clear d a;generalize (R.take k).flatten.length=s at*;generalize x.length=m at*;have q1:decide (((s:Int)+(m:Int))<0)=false:=qW (by omega);have q2:IntKind.i64.wrap ((s:Int)+(m:Int))=(s:Int)+(m:Int):=IntWalk.i64_in _ ⟨by omega,by omega⟩;go_wp2;refine⟨⟨k+1,by omega,by go_num,by rw[Z.out],trivial⟩,by simp[intOf];omega⟩
  ·obtain rfl:k=n:=(by omega);have l1:¬(k:Int)<(k:Int):=(by omega);have I:(R.take k).flatten.length=N:=(by rw[r.out,List.take_length,<-c.out]);rw[I];clear I O;obtain⟨l,rfl⟩:∃l,l=wr:=⟨_,rfl⟩
   go_wp2_with fail;refine C.out.mono ?_;rintro e w1⟨A1,c1,rfl,f,K⟩;have Y:=qQ f;have U:=qQ K;clear f K;go_wp2;go_loopg [6,27] k (fun g u i wr=>∃(j:Nat),j+g=k/\i = .int .i64 j/\j4 wr l.heap.size u (R.take j).flatten/\Below l.heap.size l wr)
   case atStart=>exact⟨0,by omega,rfl,Y.out,U.out⟩
   case round =>
    obtain⟨j,af,rfl,f,L⟩:=hrel;obtain⟨S,c3,rfl⟩:=f.slice;have o:=qQ f;have q:=qQ L;clear f L;cases gk with
    | zero =>
      obtain rfl:j=k:=(by omega);have s1:¬(j:Int)<(j:Int):=(by omega);have ej:(R.take j)=R:=(by rw[r.out];exact List.take_length);rw[ej]at o ⊢;rw[<-c.out]at o ⊢;go_wp2;go_ret;exact⟨S,c3,rfl,by have h:=o.out;rw[c.out]at h;rw[c.out];exact h,q.out⟩
    | succ gi =>
      have aa:j<k:=(by omega);have s1:(j:Int)<(k:Int):=(by omega);obtain⟨x,a⟩:∃x,R[j]? = some x:=⟨_,qC (by rw[<-r.out];exact aa)⟩
      obtain⟨b,u,rfl,J,D,d⟩:=z.out j x a;have ae:=(q.out.cell (p:=⟨b,off+j,none⟩) J).trans D;have P:=B.out (j+1);rw[QB a,qI,<-c.out]at P;obtain⟨T,c4,w2,F,G,H⟩:=qQO o.out (d.below q.out (qK _)) (by omega) q.out 96;obtain⟨Q,o2,c2,rfl,-,-⟩:=d.form;have W:=qQ (show j4 w2 l.heap.size (.slice T ((R.take j).flatten.length+x.length) c4) (R.take (j+1)).flatten by rw[QB a];exact G);have X:=qQ H;have V:=qQ F;clear F G H D d a P o;generalize (R.take j).flatten.length=s at*;generalize x.length=m at*;go_wp2_with (first | (at_builtin;refine yI rfl _ _ rfl rfl rfl V.out ?_) | fail);go_roundg gi
      case measure=>omega
      case rel=>exact⟨j+1,by omega,by go_num,W.out,X.out⟩
theorem qQR(w:World)(a:Array Obj):Below w.heap.size w (Sort.grow w a):=⟨rfl,rfl,rfl,by simp,fun k b=>Sort.heap_grow_old w a b⟩
theorem qQS(w:World)(base n c:Nat)(A:Option Addr)(l:List Int)(h:j4 w base (.slice A n c) l)(m:n=l.length)(z:n<=1000000):
  Calls prog 167 #[.slice A n c] w fun e w'=>e = .returned (.tuple #[])/\j4 w' base (.slice A n c) (yL l)/\Below base w w':=by
 subst m;by_cases o:(Value.slice A l.length c) = .slice none 0 0
 ·obtain⟨rfl,p,rfl⟩:=Value.slice.inj o;have u:l=[]:=List.length_eq_zero_iff.1 p;subst u;refine(AnyM.slices_Sort_int_none Tryz.isort none 0 w).mono ?_;rintro e w'⟨rfl,rfl⟩;exact⟨rfl,by rw[show yL []=[] by(unfold yL;simp)];exact j4.nil _ _,Below.refl _ _⟩
 ·obtain⟨g,y,t,i,j,m,B,-,s⟩:=Lib.holds_of_ownsRow (enc:=Value.int .i64) h o;obtain⟨rfl,-,rfl⟩:=Value.slice.inj t;refine(AnyM.slices_Sort_int Tryz.isort g 0 c l w s j (by omega)).mono ?_;rintro e w'⟨rfl,q,v,rfl⟩;have a:=Lib.ownsRow_putRow (enc:=Value.int .i64) (q:=q) (k:=l.length) (ys:=yL l) h (pG l) (qK _);rw[qd (by rw[pG];exact qK _)]at a;have f:=Lib.below_putRow (enc:=Value.int .i64) (q:=q) (d:=(yL l).toArray) (Below.refl base w) i;have b:=qQR (Sort.putRow (Value.int .i64) (Sort.ahead w q) g 0 (yL l).toArray) v;refine⟨rfl, ?_, ?_⟩
  ·have r:j4 (Sort.putRow (Value.int .i64) (Sort.ahead w q) g 0 (yL l).toArray) base (.slice (some ⟨g,0,none⟩) l.length c) (yL l):=by
    unfold j4;rw[pG];exact a
   exact j4.below r b (qK _)
  ·exact f.trans (b.mono (qO (qO i (Nat.le_of_lt j)) f.size))
theorem me(v:Value)(R:LvL)(w:World)(h:jn w v R)(f:R.flatten.length<=100000)(d:R.length<=100000):Calls prog 100 #[v] w (bI w R.flatten):=by
 have H:=qQ (qQP v R w h f d);clear h f d;unfold bI at H ⊢;generalize R.flatten=l at*;go_enter func100,ntmps100;go_wp2_with fail;refine H.out.mono ?_;rintro e j⟨A,c,rfl,a,b⟩;have g:=qQ a;have i:=qQ b;clear a b;go_wp2;go_ret;exact⟨A,c,rfl,g.out,i.out⟩
theorem BG(v:Value)(R:LvL)(n:Int)(w:World)(h:jn w v R)(k:R.flatten.length<=100000)(g:R.length<=100000):
  Calls prog 99 #[v,.int .i64 n] w fun e w'=>e = .returned (.bool (decide (0<=n)&&!decide (n∈R.flatten)))/\Below w.heap.size w w':=by
 have H:=qQ (me v R w h k g);clear h g;unfold bI at H;generalize R.flatten=l at*;have b:=qQ (fun W A c (m:j4 W w.heap.size (.slice A l.length c) l)=>QA (.slice A l.length c) l n W (j4.xQ m) (by omega));generalize decide (n∈l)=q at*;by_cases a:0<=n
 ·rw[qA a];go_enter func99,ntmps99;go_wp2_with fail;refine H.out.mono ?_;rintro e w'⟨A,c,rfl,d,f⟩;have i:=qQ (b.out _ _ _ d);have j:=qQ f;clear d f;go_wp2_with fail;refine i.out.mono ?_;rintro e p⟨rfl,rfl⟩;go_wp2;go_ret;exact⟨by simp,j.out⟩
 ·rw[qW a];have o:decide (0<=n)=false:=qW a;clear H b;go_enter func99,ntmps99;go_wp2;go_ret;exact⟨rfl,Below.refl _ _⟩
theorem BW{R:LvL}(h:5<R.length∨40<R.flatten.length):yT R=false:=qW fun a=>by have:=a.1;have:=a.2.1;omega
theorem qQT{R:LvL}(a:R.length<=5)(b:R.flatten.length<=40):yT R=true↔mU (yL R.flatten) R.flatten.length:=by
 have h:=FG R.flatten;rw[pG]at h;rw[h];exact⟨fun e=>(of_decide_eq_true e).2.2,fun e=>qA ⟨a,b,e.1,e.2⟩⟩
theorem BA{s:List Int}{k:Nat}{x:Int}(h:mU s k)(a:s[k]? = some x)(d:0<=x)(f:∀j y,k=j+1->s[j]? = some y->x≠y):mU s (k+1):=by
 intro i g;rcases Nat.lt_or_ge i k with c|c
 ·exact h i c
 ·obtain rfl:i=k:=by omega
  refine⟨by rw[qz,a];exact d,fun m=>?_⟩;have l:i<s.length:=(qP.1 a).1;obtain⟨y,b⟩:∃y,s[i-1]? = some y:=⟨_,qC (by omega)⟩
  rw[qz,a,qz,b];exact f (i-1) y (by omega) b
theorem qQ0{s:List Int}{k m:Nat}{x:Int}(b:s[k]? = some x)(a:k<m)(c:x<0):¬mU s m:=fun h=>by
 have:=(h k a).1;rw[qz,b]at this;have:0<=x:=this;omega
theorem qQ1{s:List Int}{k m:Nat}{x:Int}(b:s[k+1]? = some x)(c:s[k]? = some x)(a:k+1<m):¬mU s m:=fun h=>by
 have:=(h (k+1) a).2 (by omega);rw[qz,b,Nat.add_sub_cancel,qz,c]at this;exact this rfl
theorem JI(v:Value)(R:LvL)(w:World)(h:jn w v R)(r:R.flatten.length<=100000)(f:R.length<=100000):
  Calls prog 98 #[v] w fun e w'=>e = .returned (.bool (yT R))/\Below w.heap.size w w':=by
 have H:=qQ (me v R w h r f);obtain⟨A0,o0,c0,rfl,-,-⟩:=h.form;unfold bI at H;clear h;by_cases g:5<R.length
 ·rw[BW (qX g)];obtain⟨n,d⟩:∃n,n=R.length:=⟨_,rfl⟩
  rw[<-d]at H g f ⊢;clear d;generalize R.flatten=l at*;have q1:decide ((5:Int)<(n:Int))=true:=qA (by omega);have q2:decide (5<n)=true:=qA g;clear r f;go_enter func98,ntmps98;go_wp2_with fail;refine H.out.mono ?_;rintro e w'⟨A,c,rfl,o,a⟩;have t:=qQ a;clear o a;go_wp2;go_ret;exact⟨rfl,t.out⟩
 ·by_cases p:40<R.flatten.length
  ·rw[BW (qY p)];obtain⟨n,d⟩:∃n,n=R.length:=⟨_,rfl⟩
   rw[<-d]at H g f ⊢;clear d;obtain⟨m,B⟩:∃m,m=R.flatten.length:=⟨_,rfl⟩
   rw[<-B]at H p r;clear B;generalize R.flatten=l at*;have q1:decide ((5:Int)<(n:Int))=false:=qW (by omega);have q2:decide (5<n)=false:=qW (by omega);have q3:decide ((40:Int)<(m:Int))=true:=qA (by omega);have q4:decide (40<m)=true:=qA p;clear r f g p;go_enter func98,ntmps98;go_wp2_with fail;refine H.out.mono ?_;rintro e w'⟨A,c,rfl,o,a⟩;have t:=qQ a;clear o a;go_wp2;go_ret;exact⟨rfl,t.out⟩
  ·have C:=qQ (qQT (R:=R) (by omega) (by omega));obtain⟨n,d⟩:∃n,n=R.length:=⟨_,rfl⟩
   rw[<-d]at H g f ⊢;clear d;have M:=qQ (pG R.flatten);have T:=qQ (fun W A c (hr:j4 W w.heap.size (.slice A R.flatten.length c) R.flatten)=>qQS W w.heap.size R.flatten.length c A R.flatten hr rfl (by omega));obtain⟨m,B⟩:∃m,m=R.flatten.length:=⟨_,rfl⟩
   rw[<-B]at H p r C M T;clear B;generalize hq:yT R=q at*;clear hq;generalize hs:yL R.flatten=s at*;clear hs;generalize R.flatten=l at*;have q1:decide ((5:Int)<(n:Int))=false:=qW (by omega);have q2:decide (5<n)=false:=qW (by omega);have q3:decide ((40:Int)<(m:Int))=false:=qW (by omega);have q4:decide (40<m)=false:=qW (by omega);have ad:m<=40:=(by omega);clear r f g p;go_enter func98,ntmps98;go_wp2_with fail;refine H.out.mono ?_;rintro e w1⟨A,c,rfl,o,a⟩;have t:=qQ a;have ab:=qQ (T.out w1 A c o);clear o a;go_wp2_with fail;refine ab.out.mono ?_;rintro e w2⟨rfl,Y,Z⟩;have J:=qQ (show Below w.heap.size w w2 from t.out.trans Z);have aa:=j4.xQ Y;obtain⟨A',off,ac,X,-,hc⟩:=aa.form;obtain⟨rfl,-,rfl⟩:=Value.slice.inj X;have S:=qQ hc;clear Y Z aa X hc;go_wp2;go_loopw [20] (fun i wr=>∃k:Nat,k<=m/\i = .int .i64 k/\mU s k/\wr=w2) (fun i _=>m-(intOf i).toNat)
   case atStart=>exact⟨0,qF _,rfl,fun i hi=>(by omega),rfl⟩
   case round =>
    obtain⟨k,hk,rfl,hst,rfl⟩:=hrel;have N:=qQ hst;clear hst;by_cases G:k<m
    ·have l1:(k:Int)<(m:Int):=(by omega);obtain⟨x,O⟩:∃x,s[k]? = some x:=⟨_,qC (by rw[M.out];exact G)⟩
     obtain⟨b,rfl,hb,cx⟩:=S.out k x O;have D:=qQ O;clear O hb;by_cases u:x<0
     ·have L:=qQ (qQ0 D.out G u);have Q:q=false:=by cases q with | true=>exact absurd (C.out.1 rfl) L.out | false=>rfl
      subst Q;have q5:decide (x<0)=true:=qA u;go_wp2;go_ret;exact⟨rfl,J.out⟩
     ·have q5:decide (x<0)=false:=qW u;have F:0<=x:=(by omega);cases k with
      | zero =>
        have K:=qQ (BA N.out D.out F (fun j y e=>by omega));rw[Nat.add_zero]at cx;clear u F;go_wp2;refine⟨⟨1,by omega,rfl,K.out,trivial⟩,by simp[intOf];omega⟩
      | succ j =>
        obtain⟨y,P⟩:∃y,s[j]? = some y:=⟨_,qC (by rw[M.out];omega)⟩
        obtain⟨b',V,-,cy⟩:=S.out j y P;obtain rfl:b=b':=(by cases V;rfl);have U:=qQ P;have q6:decide ((0:Int)<((j+1:Nat):Int))=true:=qA (by omega);have q7:IntKind.i64.wrap (((j+1:Nat):Int)-1)=(j:Int):=(by rw[IntWalk.i64_in _ ⟨by omega,by omega⟩];omega);have q8:(j:Int)<(m:Int):=(by omega);clear P V;by_cases I:x=y
        ·subst I;have L:=qQ (qQ1 D.out U.out G);have Q:q=false:=by cases q with | true=>exact absurd (C.out.1 rfl) L.out | false=>rfl
         subst Q;go_wp2;go_ret;exact⟨rfl,J.out⟩
        ·have K:=qQ (BA N.out D.out F (fun i z e hz=>by
          obtain rfl:i=j:=(by omega);rw[U.out]at hz;obtain rfl:y=z:=(by simpa using hz);exact I))
         have q9:(x==y)=false:=qv.2 I;clear u F I;go_wp2;refine⟨⟨j+1+1,by omega,by go_num,K.out,trivial⟩,by simp[intOf];omega⟩
    ·obtain rfl:k=m:=(by omega);have l1:¬(k:Int)<(k:Int):=(by omega);have qt:q=true:=C.out.2 N.out;subst qt;clear G;go_wp2;go_ret;exact⟨rfl,J.out⟩
theorem qQ2{R:LvL}{k:Nat}{x:List Int}(a:R[k]? = some x)(h:x.length≠0):kU R (k+1)=k+1:=by
 unfold kU;rw[qZ];rw[qz,a];exact fun e=>h (by rw[show x=[] from e];rfl)
theorem qQ3{R:LvL}{k:Nat}{x:List Int}(a:R[k]? = some x)(h:x.length=0):kU R (k+1)=kU R k:=by
 rw[kU,qV];rw[qz,a];exact List.length_eq_zero_iff.1 h
theorem jn.take{w:World}{n c k:Nat}{A:Option Addr}{R:LvL}(h:jn w (.slice A n c) R)(g:n=R.length)(r:k<=n):
  jn w (.slice A k c) (R.take k)/\(0<n->sliced A 0 k c 1 = .slice A k c/\k<=c):=by
 obtain⟨M,⟨j,l⟩,rfl⟩:=h;rw[gS]at g;subst g;have q:lQ w (M.take k):=fun x d=>l x (List.mem_of_mem_take d)
 have s:(M.take k).length=k:=by rw[qS];omega
 rcases j with⟨rfl,a,u,f⟩|⟨b,off,v,f,z,m,o,p⟩
 ·obtain⟨rfl,-,rfl⟩:=Value.slice.inj f;have t:k=0:=by simpa using r
  subst t;exact⟨⟨[],⟨qX ⟨rfl,_,_,rfl⟩,fun x d=>(by cases d)⟩,rfl⟩,fun h=>absurd h (by simp)⟩
 ·obtain⟨rfl,-,rfl⟩:=Value.slice.inj f;refine⟨⟨M.take k,⟨qY ⟨b,off,c,by rw[s],by omega,m,o,fun i x d=>?_⟩,q⟩,by rw[GM]⟩,fun y=>⟨?_,by omega⟩⟩
  ·rw[List.getElem?_take]at d;split at d
   ·exact p i x d
   ·cases d
  ·unfold sliced;rw[qZ (by omega)];simp[Addr.add]
theorem BC{n c k:Nat}{A:Option Addr}(b:k<=c)(e:sliced A 0 k c 1 = .slice A k c)(W:World):(Instr.slice 38 (.slice A n c) none (some (.int .i64 (k:Nat))) none).run prog W = .ok (.slice A k c) W:=by
 have a:(sizeOf (prog.elem 38)).run prog W = .ok 1 W:=by simp[go_sem]
 rw[run_slice_h W _ _ _ c Tryz.underlying38 .i64 _ (by omega) (by omega),a];show Result.ok (sliced _ _ _ _ _) W=_;rw[qh,e]
theorem qQ4(a:Option Addr)(c:Nat):∃A b,sliced a 0 0 c 1 = .slice A 0 b:=by unfold sliced;exact⟨_,_,rfl⟩
theorem qQ5{n c:Nat}{A:Option Addr}:∃a b,∀W,(Instr.slice 38 (.slice A n c) none (some (.int .i64 0)) none).run prog W = .ok (.slice a 0 b) W:=by
 obtain⟨a,b,e⟩:=qQ4 A c;refine⟨a,b,fun W=>?_⟩;have d:(sizeOf (prog.elem 38)).run prog W = .ok 1 W:=by simp[go_sem]
 rw[run_slice_h W _ _ _ c Tryz.underlying38 .i64 _ (by omega) (by omega),d];show Result.ok (sliced _ _ _ _ _) W=_;rw[show(0:Int).toNat=0 from rfl,e]
def mX(w:World)(t:Nat)(A:Option Addr)(c:Nat)(e:Ending)(w':World):Prop:=e = .returned (.slice A t c)/\w'=w
theorem QC{w:World}{n c k:Nat}{A:Option Addr}{R:LvL}(h:jn w (.slice A n c) R)(a:n=R.length)(b:k=kU R n):
  k=(jI R).length/\jn w (.slice A k c) (jI R):=by
 have d:=sA R n;have e:jI R=R.take k:=by unfold jI;rw[<-a,b]
 refine⟨by rw[e,qS];omega, ?_⟩;rw[e];exact(h.take a (by omega)).1
theorem BD{w:World}{n c:Nat}{A:Option Addr}{R:LvL}(h:jn w (.slice A n c) R)(r:n=R.length):∀j,j<n->∃g off a m d,A=some ⟨g,off,none⟩/\w.cell? ⟨g,off+j,none⟩=some (.slice a m d)/\(m≠0->kU R (j+1)=j+1)/\(m=0->kU R (j+1)=kU R j):=by
 intro j q;obtain⟨o,off,p,i,-,k⟩:=h.form;obtain⟨rfl,-,rfl⟩:=Value.slice.inj i;obtain⟨y,f⟩:∃y,R[j]? = some y:=⟨_,qC (by omega)⟩
 obtain⟨b,u,rfl,-,c1,l⟩:=k j y f;obtain⟨a,s,d,rfl,-,-⟩:=l.form;exact⟨b,off,a,y.length,d,rfl,c1,qQ2 f,qQ3 f⟩
theorem qQ6(A:Option Addr)(n c:Nat)(R:LvL)(w:World)(h:jn w (.slice A n c) R)(d:n=R.length)(D:n<=100000):
  Calls prog 225 #[.slice A n c] w (mX w (jI R).length A c):=by
 have p:=qQ (fun k (b:k=kU R n)=>(QC h d b).1);have z:=qQ (fun k m (b:k<=n) (a:0<n) W=>BC (n:=m) ((h.take d b).2 a).2 ((h.take d b).2 a).1 W);have t:=qQ (BD h d);unfold mX;generalize (jI R).length=L at*;clear h d;generalize q:kU R=f at*;have y:=qQ (show f 0=0 by rw[<-q];rfl);clear q;go_enter func225,ntmps225;go_wp2;go_loopw [0] (fun u wr=>∃k:Nat,k<=n/\u = .slice A k c/\f k=f n/\wr=w) (fun u _=>match u with | .slice _ k _=>k | _=>0)
 case atStart=>exact⟨n,qK _,rfl,rfl,rfl⟩
 case round =>
  obtain⟨k,b,rfl,r,rfl⟩:=hrel;have i:=qQ r;clear r;cases k with
  | zero =>
    obtain rfl:=p.out 0 (by rw[<-i.out,y.out]);go_wp2;go_ret;exact⟨rfl,rfl⟩
  | succ j =>
    obtain⟨g,off,B,m,C,rfl,c1,l,o⟩:=t.out j (by omega);have G:decide ((0:Int)<((j+1:Nat):Int))=true:=qA (by omega);have H:IntKind.i64.wrap (((j+1:Nat):Int)-1)=(j:Int):=(by rw[IntWalk.i64_in _ ⟨by omega,by omega⟩];omega);have I:(j:Int)<((j+1:Nat):Int):=(by omega);by_cases a:m=0
    ·subst a;have v:=qQ ((o rfl).symm.trans i.out);have F:=fun W=>z.out j (j+1) (by omega) (by omega) W
     clear l o;go_wp2;exact⟨⟨j,by omega,rfl,v.out,trivial⟩,by simp⟩
    ·have s:=qQ (p.out (j+1) (by rw[<-i.out,l a]));have J:(((m:Nat):Int)==0)=false:=qv.2 (by omega);have K:(m==0)=false:=qv.2 a;clear l o a;go_wp2;go_ret;exact⟨by rw[<-s.out];rfl,rfl⟩
theorem BE(A A2:Option Addr)(n c c2:Nat)(R:LvL)(w:World)(h:jn w (.slice A n c) R)(i:n=R.length)(J:n<=100000)
  (v:kU R n=0->∀W,(Instr.slice 38 (.slice A n c) none (some (.int .i64 0)) none).run prog W = .ok (.slice A2 0 c2) W) (t:kU R n≠0->A2=A/\c2=c):
  Calls prog 78 #[.slice A n c] w (mX w (jI R).length A2 c2):=by
 have F:=qQ v;have C:=qQ t;have q:=qQ (fun k (d:k=kU R n)=>(QC h i d).1);have D:=qQ (fun k (d:k<=n) (a:0<n) W=>BC (n:=n) ((h.take i d).2 a).2 ((h.take i d).2 a).1 W);have z:=qQ (BD h i);unfold mX;generalize (jI R).length=P at*;clear h i v t;generalize r:kU R=f at*;have p:=qQ (show f 0=0 by rw[<-r];rfl);clear r;go_enter func78,ntmps78;go_wp2;go_loopw [3] (fun u wr=>∃k:Nat,k<=n/\u = .int .i64 k/\f k=f n/\wr=w) (fun u _=>(intOf u).toNat)
 case atStart=>exact⟨n,qK _,rfl,rfl,rfl⟩
 case round =>
  obtain⟨k,d,rfl,s,rfl⟩:=hrel;have b:=qQ s;clear s;cases k with
  | zero =>
    obtain rfl:=q.out 0 (by rw[<-b.out,p.out]);have G:=F.out (by rw[<-b.out,p.out]);go_wp2;go_ret;exact⟨rfl,rfl⟩
  | succ j =>
    obtain⟨g,off,H,m,I,rfl,c1,l,o⟩:=z.out j (by omega);have K:decide ((0:Int)<((j+1:Nat):Int))=true:=qA (by omega);have L:IntKind.i64.wrap (((j+1:Nat):Int)-1)=(j:Int):=(by rw[IntWalk.i64_in _ ⟨by omega,by omega⟩];omega);have M:(j:Int)<(n:Int):=(by omega);by_cases a:m=0
    ·subst a;have B:=qQ ((o rfl).symm.trans b.out);clear l o;go_wp2;exact⟨⟨j,by omega,rfl,B.out,trivial⟩,by simp[intOf]⟩
    ·have y:=qQ (q.out (j+1) (by rw[<-b.out,l a]));obtain⟨rfl,rfl⟩:=C.out (by rw[<-b.out,l a];omega);have N:(((m:Nat):Int)==0)=false:=qv.2 (by omega);have O:(m==0)=false:=qv.2 a;have G:∀W,(Instr.slice 38 (.slice (some ⟨g,off,none⟩) n c2) none (some (.int .i64 ((j:Int)+1))) none).run prog W = .ok (.slice (some ⟨g,off,none⟩) (j+1) c2) W:=fun W=>D.out (j+1) (by omega) (by omega) W
     clear l o a;go_wp2;go_ret;exact⟨by rw[<-y.out];rfl,rfl⟩
theorem qQ7(A:Option Addr)(n c:Nat)(R:LvL)(d:n=R.length)(g:n<=100000):∃a b,∀w,jn w (.slice A n c) R ->
  Calls prog 225 #[.slice A n c] w (mX w (jI R).length a b)/\jn w (.slice a (jI R).length b) (jI R) :=
 ⟨A,c,fun w h=>⟨qQ6 A n c R w h d g,by
  obtain⟨e,f⟩:=QC h d rfl;rw[<-e];exact f⟩⟩
theorem BF(A:Option Addr)(n c:Nat)(R:LvL)(d:n=R.length)(g:n<=100000):∃a b,∀w,jn w (.slice A n c) R ->
  Calls prog 78 #[.slice A n c] w (mX w (jI R).length a b)/\jn w (.slice a (jI R).length b) (jI R):=by
 by_cases f:kU R n=0
 ·obtain⟨a,b,k⟩:=qQ5 (n:=n) (c:=c) (A:=A);refine⟨a,b,fun w h=>⟨BE A a n c b R w h d g (fun _=>k) (fun e=>absurd f e), ?_⟩⟩;have i:jI R=[]:=by unfold jI;rw[<-d,f,List.take_zero]
  rw[i];exact jn.nil w a b
 ·refine⟨A,c,fun w h=>⟨BE A A n c c R w h d g (fun e=>absurd e f) (fun _=>⟨rfl,rfl⟩), ?_⟩⟩;obtain⟨e,j⟩:=QC h d rfl;rw[<-e];exact j
def fU: LvS:=⟨.slice none 0 0,[]⟩
theorem BH(n:Nat):(madeCells #[Value.slice none 0 0] (n*1)).toList=gX (List.replicate n fU):=by
 unfold gX;rw[List.map_replicate];apply List.ext_getElem?;intro i;rw[Array.getElem?_toList,List.getElem?_replicate];by_cases h:i<n
 ·rw[qV h];unfold madeCells;simp[h,Nat.mod_one,fU]
 ·rw[qZ h,Array.getElem?_eq_none (by rw[size_madeCells];omega)]
theorem qQ8(n:Nat)(g:n<=1000000):∃Z:Array Value,(∀w:World,(Instr.makeSlice 38 (.int .i64 (n:Nat)) (.int .i64 (n:Nat))).run prog w = .ok (.slice (some ⟨w.heap.size,0,none⟩) n n) (w.alloc (.cells Z 96))) /\
  ∀w:World,j8 (w.alloc (.cells Z 96)) w.heap.size (.slice (some ⟨w.heap.size,0,none⟩) n n) (List.replicate n fU):=by
 obtain⟨f,b,c,a,d⟩:=info_parts JJ;refine⟨madeCells #[Value.slice none 0 0] (n*1),fun w=>?_,fun w=>?_⟩
 ·have h:=run_makeSlice (P:=prog) w 38 96 f _ Tryz.underlying38 b c .i64 .i64 (n:Int) (n:Int) (by omega) (Int.le_refl _) (by rw[a];omega) (by rw[d];omega) (by omega);rw[a,qh]at h;exact h
 ·have h:=World.ownsRow_lit (base:=w.heap.size) (e:=96) (size:=1) w (madeCells #[Value.slice none 0 0] (n*1)) n (qK _) (by unfold maxLen;omega) (size_madeCells _ _);unfold j8;rw[List.length_replicate,<-BH];exact h
def lJ(R:LvL)(n k:Nat):LvL:=R.take k++List.replicate (n-k) []
theorem qQ9(R:LvL)(n:Nat):lJ R n 0=List.replicate n []:=by unfold lJ;rw[List.take_zero,List.nil_append,Nat.sub_zero]
theorem BI{R:LvL}{n k:Nat}(a:k<=R.length)(h:R.length<=n):(lJ R n k).length=n:=by
 unfold lJ;rw[qI,qS,List.length_replicate];omega
theorem qQq{R:LvL}{n k:Nat}{x:List Int}(a:R[k]? = some x)(h:R.length<=n):(lJ R n k).set k x=lJ R n (k+1):=by
 have b:k<R.length:=(qP.1 a).1;have e:n-k=(n-(k+1))+1:=by omega
 unfold lJ;rw[List.set_append_right _ _ (by rw[qS];omega),qS,Nat.min_eq_left (by omega),Nat.sub_self,e,List.replicate_succ,List.set_cons_zero,List.take_add_one,a];simp
theorem qQx(R:LvL):lJ R 5 R.length=ke R:=rfl
def gh(w:World)(g n:Nat)(R:LvL)(k:Nat)(wr:World):Prop:=∃M,j8 wr w.heap.size (.slice (some ⟨g,0,none⟩) n n) M/\uL wr w.heap.size M/\oL M/\lvl M=lJ R n k/\Below w.heap.size w wr
theorem gh.start{w w1:World}{Z:Array Value}(n:Nat)(R:LvL)(h:j8 (w.alloc (.cells Z 96)) w.heap.size (.slice (some ⟨w.heap.size,0,none⟩) n n) (List.replicate n fU)):gh w w.heap.size n R 0 (w.alloc (.cells Z 96)):=by
 refine⟨_,h,fun x a=>?_,fun i j x y a f d g b=>?_, ?_,(Below.refl w.heap.size w).alloc (qK _) _⟩
 ·rw[List.eq_of_mem_replicate a];exact j4.nil _ _
 ·have c:=List.eq_of_mem_replicate (qM a);rw[c]at b;cases b
 ·rw[qQ9];unfold lvl;rw[List.map_replicate];rfl
theorem gh.cell{w wr:World}{g n k m:Nat}{R:LvL}(h:gh w g n R k wr)(s:m<n)(j:k<=R.length)(i:R.length<=n):(∃u,wr.cell? ⟨g,m,none⟩=some u)/\wr.frozen? ⟨g,m,none⟩=false/\w.heap.size<=g/\g<wr.heap.size:=by
 obtain⟨M,a,p,q,f,r⟩:=h;have l:M.length=n:=by rw[<-gS,f,BI j i]
 obtain⟨y,o⟩:∃y,M[m]? = some y:=⟨_,qC (by omega)⟩
 obtain⟨c1,c2⟩:=j8.cell a l.symm o;obtain⟨d,e,b,c,-⟩:=j8.some_ a (by omega);obtain rfl:g=d:=by cases e;rfl
 exact⟨⟨_,c1⟩,c2,b,c⟩
theorem gh.next{w wr w2:World}{g n k m c:Nat}{A:Option Addr}{R:LvL}{x:List Int}(h:gh w g n R k wr)(s:R[k]? = some x)(d:R.length<=n)(r:j4 w2 wr.heap.size (.slice A m c) x)(f:Below wr.heap.size wr w2):
  gh w g n R (k+1) (w2.setCell ⟨g,k,none⟩ (.slice A m c)):=by
 have K:k<R.length:=(qP.1 s).1;obtain⟨-,-,v,I⟩:=h.cell (m:=k) (by omega) (by omega) d;obtain⟨M,t,o,u,p,b⟩:=h;have z:M.length=n:=by rw[<-gS,p,BI (by omega) d]
 have l:=j8.below t f (qK _);have D:=o.below f (qK _);have F:=j8.put l z.symm (i:=k) ⟨.slice A m c,x⟩;refine⟨M.set k ⟨.slice A m c,x⟩,F,fun y a=>?_,u.set fun q B j y J a C=>?_, ?_,(b.trans (f.mono b.size)).setCell v _⟩
 ·rcases List.mem_or_eq_of_mem_set a with a|rfl
  ·exact j4.xF (D y a) l
  ·exact j4.xF (j4.down r b.size) l
 ·have G:=(j4.block r q B).1;have H:=(j4.block (o y (qM a)) q C).2;omega
 ·rw[rA,p];exact qQq s d
def QD(w:World)(R:LvL)(e:Ending)(w':World):Prop:=∃g,e = .returned (.slice (some ⟨g,0,none⟩) 5 5)/\gh w g 5 R R.length w'
theorem BN(v:Value)(R:LvL)(w:World)(h:jn w v R)(hl:R.flatten.length<=100000)(r:R.length<=5):Calls prog 101 #[v] w (QD w R):=by
 obtain⟨A,off,ab,rfl,-,I⟩:=h.form;have N:=qQ I;have O:=qQ (fun k x (f:R[k]? = some x)=>oS f);have S:=qQ (fun wr g k j A m c x (o:gh w g 5 R k wr) (q:R[k]? = some x) (a:j4 j wr.heap.size (.slice A m c) x) d=>o.next q r a d);have B:=qQ (fun wr g k m (o:gh w g 5 R k wr) (q:m<5) a=>o.cell q a r);obtain⟨Z,G,H⟩:=qQ8 5 (by omega);have U:=qQ (gh.start (w1:=w) 5 R (H w));have hZ:∀w:World,(Instr.makeSlice 38 (.int .i64 5) (.int .i64 5)).run prog w = .ok (.slice (some ⟨w.heap.size,0,none⟩) 5 5) (w.alloc (.cells Z 96)):=G;unfold QD;obtain⟨n,z⟩:∃n,n=R.length:=⟨_,rfl⟩
 have P:=qQ z;rw[<-z]at r B ⊢;clear h I z H G;go_enter func101,ntmps101;go_wp2;go_loopg [9] n (fun g i wr=>∃(k:Nat),k+g=n/\i = .int .i64 k/\gh w w.heap.size 5 R k wr)
 case atStart=>exact⟨0,by omega,rfl,U.out⟩
 case round =>
  obtain⟨k,ac,rfl,J⟩:=hrel;have l:=qQ J;clear J;cases gk with
  | zero =>
    obtain rfl:k=n:=(by omega);have s1:¬(k:Int)<(k:Int):=(by omega);go_wp2;go_ret;exact⟨_,rfl,l.out⟩
  | succ W =>
    have Y:k<n:=(by omega);have s1:(k:Int)<(n:Int):=(by omega);obtain⟨x,f⟩:∃x,R[k]? = some x:=⟨_,qC (by rw[<-P.out];exact Y)⟩
    obtain⟨b,u,rfl,X,c1,t⟩:=N.out k x f;obtain⟨M,-,-,-,-,s⟩:=l.out;have c2:=(s.cell (p:=⟨b,off+k,none⟩) X).trans c1;have C:=qQ (JZ u x wr (t.below s (qK _)) (by have:=O.out k x f;omega));obtain⟨A2,o2,aa,rfl,-,-⟩:=t.form;have T:=qQ (fun j A c a d=>S.out wr _ k j A x.length c x l.out f a d);obtain⟨⟨y,D⟩,F,-,K⟩:=B.out wr _ k k l.out (by omega) (by omega);unfold bI at C;clear f t s c1;generalize x.length=m at*;go_wp2_with fail;refine C.out.mono ?_;rintro e j⟨L,V,rfl,a,d⟩;have Q:=qQ (T.out j L V a d);have d3:=(d.cell (p:=⟨w.heap.size,k,none⟩) K).trans D;have d4:j.frozen? ⟨w.heap.size,k,none⟩=false:=(by rw[World.frozen?_of_block (w:=wr) (d.block _ K)];exact F);clear a d D F;go_wp2;go_roundg W
    case measure=>omega
    case rel=>exact⟨k+1,by omega,by go_num,Q.out⟩
def QE(b:Bool)(w:World)(e:Ending)(w':World):Prop:=e = .returned (.bool b)/\∃n,w'=w.drewN n
theorem qQz{a b:List Int}(f:a.length=b.length)(h:∀(j:Nat) x y,a[j]? = some x->b[j]? = some y->x=y):a=b:=by
 apply List.ext_getElem f;intro j c d;exact h j _ _ (qC c) (qC d)
theorem qQj(P Q:Value)(a b:List Int)(w:World)(J:kX w P a)(L:kX w Q b):
  Calls prog 143 #[P,Q] w (QE (decide (a=b)) w):=by
 obtain⟨A,oa,Z,rfl,N,G⟩:=J.cell;obtain⟨B,ob,cb,rfl,O,H⟩:=L.cell;unfold maxLen at N O;have R:=qQ G;have FB:=qQ H;clear J L G H;by_cases d:a.length=b.length
 case neg =>
  have e:decide (a=b)=false:=qW (fun h=>d (by rw[h]));rw[e];have t:((a.length:Int) != (b.length:Int))=true:=by simp;omega
  have t2:(a.length != b.length)=true:=by simp;omega
  clear e d;go_enter func143,ntmps143;go_wp2;go_ret;exact⟨rfl,0,rfl⟩
 obtain⟨n,f⟩:∃n,n=a.length:=⟨_,rfl⟩
 have l:=qQ f;have C:=qQ (f.trans d);rw[<-f]at N ⊢;rw[<-d,<-f]at O ⊢;clear d f;go_enter func143,ntmps143;go_wp2;go_loopw [5] (fun i wr=>∃k m:Nat,k<=n/\i = .int .i64 k/\(∀j x y,j<k->a[j]? = some x->b[j]? = some y->x=y)/\wr=w.drewN m) (fun i _=>n-(intOf i).toNat)
 case atStart=>exact⟨0,0,qF _,rfl,fun j x y U=>by omega,rfl⟩
 case round =>
  obtain⟨k,m,hk,rfl,K,rfl⟩:=hrel;have z:=qQ K;clear K;by_cases o:k<n
  ·have W:(k:Int)<(n:Int):=(by omega);have r:a[k]? = some a[k]:=qC (by rw[<-l.out];exact o);have s:b[k]? = some b[k]:=qC (by rw[<-C.out];exact o);obtain⟨X,rfl,d1⟩:=R.out k _ r;obtain⟨Y,rfl,d2⟩:=FB.out k _ s;have D:=qQ r;have F:=qQ s;clear r s;generalize a[k]=x at*;generalize b[k]=y at*;by_cases g:x=y
   ·subst g;go_wp2;go_quiet (fail);go_wp2;refine⟨⟨k+1,_,by omega,by go_num,fun j u v U p q=>?_,rfl⟩,by simp[intOf];omega⟩;rcases Nat.lt_or_ge j k with c|c
    ·exact z.out j u v c p q
    ·obtain rfl:j=k:=(by omega);rw[D.out]at p;rw[F.out]at q;have S:x=u:=(by simpa using p);have T:x=v:=(by simpa using q);rw[<-S,<-T]
   ·have e:decide (a=b)=false:=qW (fun h=>g (by have I:=D.out;rw[h,F.out]at I;simpa using I.symm));have t:(x != y)=true:=(by simp[g]);have E:=qQ e;clear e g;go_wp2;go_quiet (fail);go_wp2;go_ret;exact⟨by rw[E.out];rfl,_,World.drewN_drewN _ _ _⟩
  ·have e:decide (a=b)=true:=qA (qQz (by rw[<-l.out,<-C.out]) (fun j x y M V=>z.out j x y (by have:=(qP.1 M).1;rw[<-l.out]at this;omega) M V));have W:decide ((k:Int)<(n:Int))=false:=qW (by omega);have l2:decide (k<n)=false:=qW (by omega);have E:=qQ e;clear e o;go_wp2;go_ret;exact⟨by rw[E.out];rfl,_,rfl⟩
theorem qQk{a b:LvL}(f:a.length=b.length)(h:∀(j:Nat) x y,a[j]? = some x->b[j]? = some y->x=y):a=b:=by
 apply List.ext_getElem f;intro j c d;exact h j _ _ (qC c) (qC d)
theorem qQv(va vb:Value)(a b:LvL)(w:World)(T:jn w va a)(V:jn w vb b):
  Calls prog 77 #[va,vb] w (QE (decide (a=b)) w):=by
 obtain⟨A,oa,ca,rfl,X,Q⟩:=T.form;obtain⟨B,ob,cb,rfl,Y,R⟩:=V.form;unfold maxLen at X Y;have FA:=qQ Q;have FB:=qQ R;clear T V Q R;by_cases l:a.length=b.length
 case neg =>
  have e:decide (a=b)=false:=qW (fun h=>l (by rw[h]));rw[e];have t:((a.length:Int) != (b.length:Int))=true:=by simp;omega
  have t2:(a.length != b.length)=true:=by simp;omega
  clear e l;go_enter func77,ntmps77;go_wp2;go_ret;exact⟨rfl,0,rfl⟩
 obtain⟨n,o⟩:∃n,n=a.length:=⟨_,rfl⟩
 have q:=qQ o;have J:=qQ (o.trans l);rw[<-o]at X ⊢;rw[<-l,<-o]at Y ⊢;clear l o;go_enter func77,ntmps77;go_wp2;go_loopw [5] (fun i wr=>∃k m:Nat,k<=n/\i = .int .i64 k/\(∀j x y,j<k->a[j]? = some x->b[j]? = some y->x=y)/\wr=w.drewN m) (fun i _=>n-(intOf i).toNat)
 case atStart=>exact⟨0,0,qF _,rfl,fun j x y hj=>by omega,rfl⟩
 case round =>
  obtain⟨k,m,hk,rfl,U,f⟩:=hrel;have I:=qQ U;have r:=qQ f;clear U;by_cases s:k<n
  ·have l1:(k:Int)<(n:Int):=(by omega);obtain⟨x,D⟩:∃x,a[k]? = some x:=⟨_,qC (by rw[<-q.out];exact s)⟩
   obtain⟨y,F⟩:∃y,b[k]? = some y:=⟨_,qC (by rw[<-J.out];exact s)⟩
   obtain⟨ba,Z,rfl,-,M,G⟩:=FA.out k _ D;obtain⟨bb,ub,rfl,-,N,H⟩:=FB.out k _ F;have O:wr.cell? ⟨ba,oa+k,none⟩=some Z:=(by rw[f];exact M);have P:wr.cell? ⟨bb,ob+k,none⟩=some ub:=(by rw[f];exact N);have g:=qQ (fun d=>qQj Z ub x y (wr.drewN d) (by rw[f];exact G) (by rw[f];exact H));obtain⟨A3,o3,c3,rfl,-,-⟩:=G.form;obtain⟨A4,o4,c4,rfl,-,-⟩:=H.form;have K:=qQ D;have L:=qQ F;unfold QE at g;clear D F M N G H f;by_cases p:x=y
   ·subst p;rw[qA rfl]at g;generalize x.length=m3 at*;go_wp2;go_quiet ((go_at_call 143;exact Calls.quiet_of (g.out _)));go_wp2;refine⟨⟨k+1,_,by omega,by go_num,fun j u v hj z C=>?_,by rw[r.out];exact World.drewN_drewN _ _ _⟩,by simp[intOf];omega⟩;rcases Nat.lt_or_ge j k with c|c
    ·exact I.out j u v c z C
    ·obtain rfl:j=k:=(by omega);rw[K.out]at z;rw[L.out]at C;have O:x=u:=(by simpa using z);have P:x=v:=(by simpa using C);rw[<-O,<-P]
   ·have e:decide (a=b)=false:=qW (fun h=>p (by have S:=K.out;rw[h,L.out]at S;simpa using S.symm));rw[qW p]at g;have E:=qQ e;clear e p;generalize x.length=m3 at*;generalize y.length=m4 at*;go_wp2;go_quiet ((go_at_call 143;exact Calls.quiet_of (g.out _)));go_wp2;go_ret;exact⟨by rw[E.out];rfl,_,by rw[r.out];exact World.drewN_drewN _ _ _⟩
  ·have e:decide (a=b)=true:=qA (qQk (by rw[<-q.out,<-J.out]) (fun j x y W hy=>I.out j x y (by have:=(qP.1 W).1;rw[<-q.out]at this;omega) W hy));have l1:decide ((k:Int)<(n:Int))=false:=qW (by omega);have l2:decide (k<n)=false:=qW (by omega);have E:=qQ e;clear e s f;go_wp2;go_ret;exact⟨by rw[E.out];rfl,_,r.out⟩
theorem JL{w:World}{base n c k:Nat}{A:Option Addr}{L:List LvS}(h:j8 w base (.slice A n c) L)(f:n=L.length)(m:k<=n):j8 w base (.slice A k c) (L.take k)/\sliced A 0 k c 1 = .slice A k c/\k<=c:=by
 subst f;have b:(L.take k).length=k:=by rw[qS];omega
 rcases h.2 with⟨d,s⟩|⟨g,r,a,d,j,l,f,o,p,q⟩
 ·obtain⟨rfl,-,rfl⟩:=Value.slice.inj d;obtain rfl:k=0:=by omega
  rw[List.take_zero];exact⟨j8.nil _ _,rfl,qK _⟩
 ·obtain⟨rfl,-,rfl⟩:=Value.slice.inj d;refine⟨⟨?_,qY ⟨g,c,a,by rw[b],j,l,by rw[b];omega,o,p, ?_⟩⟩, ?_,by omega⟩
  ·unfold gX;rw[qj,Nat.mul_one]
  ·rw[b];have i:a.toList.take (k*1)=(a.toList.take (L.length*1)).take (k*1):=(by rw[List.take_take,Nat.mul_one,Nat.mul_one,Nat.min_eq_left m]);rw[i,q];unfold gX;rw[List.map_take,Nat.mul_one]
  ·unfold sliced;by_cases t:c=0
   ·rw[qV (by omega)];simp
   ·rw[qZ (by omega)];simp[Addr.add]
theorem qQy{n c k:Nat}{A:Option Addr}(b:k<=c)(e:sliced A 0 k c 1 = .slice A k c)(W:World):(Instr.slice 38 (.slice A n c) none (some (.int .i64 (k:Nat))) none).run prog W = .ok (.slice A k c) W:=by
 have a:(sizeOf (prog.elem 38)).run prog W = .ok 1 W:=by simp[go_sem]
 rw[run_slice_h W _ _ _ c Tryz.underlying38 .i64 _ (by omega) (by omega),a];show Result.ok (sliced _ _ _ _ _) W=_;rw[qh,e]
def BO(w:World)(base:Nat)(M:List LvS)(e:Ending)(w':World):Prop:=∃A t c,e = .returned (.slice A t c)/\t=(jI (lvl M)).length/\vJ w' base (.slice A t c) (jI (lvl M))/\w'=w
theorem qQu{R:LvL}{k:Nat}{x:List Int}(a:R[k]? = some x)(h:x.length≠0):kU R (k+1)=k+1:=by
 unfold kU;rw[qZ];rw[qz,a];exact fun e=>h (by rw[show x=[] from e];rfl)
theorem qQg{R:LvL}{k:Nat}{x:List Int}(a:R[k]? = some x)(h:x.length=0):kU R (k+1)=kU R k:=by
 rw[kU,qV];rw[qz,a];exact List.length_eq_zero_iff.1 h
theorem qQb{w:World}{base n c k:Nat}{A:Option Addr}{M:List LvS}(h:j8 w base (.slice A n c) M)(d:uL w base M)(a:n=M.length)(b:k=kU (lvl M) n):
  k=(jI (lvl M)).length/\vJ w base (.slice A k c) (jI (lvl M)):=by
 have f:=sA (lvl M) n;have e:jI (lvl M)=(lvl M).take k:=by unfold jI;rw[gS,<-a,b]
 refine⟨by rw[e,qS,gS];omega,M.take k,(JL h a (by omega)).1,d.take k,by rw[e,GM]⟩
theorem qQc(A:Option Addr)(n c base:Nat)(M:List LvS)(w:World)(h:j8 w base (.slice A n c) M)(s:uL w base M)(i:n=M.length)(O:n<=100000):
  Calls prog 102 #[.slice A n c] w (BO w base M):=by
 have t:=qQ (fun k (d:k=kU (lvl M) n)=>qQb h s i d);have K:=qQ (fun k m (d:k<=n) W=>qQy (n:=m) (JL h i d).2.2 (JL h i d).2.1 W)
 have H:Hid (∀j,j<n->∃g l m o,A=some ⟨g,0,none⟩/\w.cell? ⟨g,j,none⟩=some (.slice l m o)/\(m≠0->kU (lvl M) (j+1)=j+1)/\(m=0->kU (lvl M) (j+1)=kU (lvl M) j)):=qQ fun j N=>by
  obtain⟨g,rfl,-,-,-⟩:=j8.some_ h (by omega);obtain⟨y,q⟩:∃y,M[j]? = some y:=⟨_,qC (by omega)⟩
  obtain⟨c1,-⟩:=j8.cell h i q;obtain⟨l,o,e⟩:=(s y (qM q)).slice;rw[e]at c1;exact⟨g,l,_,o,rfl,c1,fun h=>qQu (QZ q) h,fun h=>qQg (QZ q) h⟩
 unfold BO;generalize (jI (lvl M)).length=V at*;generalize jI (lvl M)=L at*;clear h s i;generalize B:kU (lvl M)=f at*;have J:=qQ (show f 0=0 by rw[<-B];rfl);clear B;go_enter func102,ntmps102;go_wp2;go_loopw [0] (fun u wr=>∃k:Nat,k<=n/\u = .slice A k c/\f k=f n/\wr=w) (fun u _=>match u with | .slice _ k _=>k | _=>0)
 case atStart=>exact⟨n,qK _,rfl,rfl,rfl⟩
 case round =>
  obtain⟨k,d,rfl,C,rfl⟩:=hrel;have r:=qQ C;clear C;cases k with
  | zero =>
    obtain⟨b,a⟩:=t.out 0 (by rw[<-r.out,J.out]);have D:=qQ a;clear a;go_wp2;go_ret;exact⟨_,_,_,rfl,b,D.out,rfl⟩
  | succ j =>
    obtain⟨g,l,m,o,rfl,c1,b,a⟩:=H.out j (by omega);have Q:decide ((0:Int)<((j+1:Nat):Int))=true:=qA (by omega);have R:IntKind.i64.wrap (((j+1:Nat):Int)-1)=(j:Int):=(by rw[IntWalk.i64_in _ ⟨by omega,by omega⟩];omega);have S:(j:Int)<((j+1:Nat):Int):=(by omega);by_cases p:m=0
    ·subst p;have I:=qQ ((a rfl).symm.trans r.out);have P:=fun W=>K.out j (j+1) (by omega) W
     clear b a;go_wp2;exact⟨⟨j,by omega,rfl,I.out,trivial⟩,by simp⟩
    ·obtain⟨v,z⟩:=t.out (j+1) (by rw[<-r.out,b p]);have T:(((m:Nat):Int)==0)=false:=qv.2 (by omega);have U:(m==0)=false:=qv.2 p;have F:=qQ v;have G:=qQ z;clear b a v z p;go_wp2;go_ret;exact⟨_,_,_,rfl,F.out,G.out,rfl⟩
def bN(w:World)(g:Nat)(L:LvL)(wr:World):Prop:=∃M,j8 wr w.heap.size (.slice (some ⟨g,0,none⟩) 5 5) M/\uL wr w.heap.size M/\oL M/\lvl M=L/\L.length=5/\Below w.heap.size w wr
theorem gh.rows{w wr:World}{g:Nat}{R:LvL}(h:gh w g 5 R R.length wr)(i:R.length<=5):bN w g (ke R) wr:=by
 obtain⟨M,a,b,c,d,f⟩:=h;exact⟨M,a,b,c,d.trans (qQx R),pY i,f⟩
theorem bN.at_{w wr:World}{g k:Nat}{L:LvL}(h:bN w g L wr)(m:k<5):∃A c,wr.cell? ⟨g,k,none⟩=some (.slice A (L.getD k []).length c)/\wr.frozen? ⟨g,k,none⟩=false/\j4 wr w.heap.size (.slice A (L.getD k []).length c) (L.getD k []):=by
 obtain⟨M,f,i,j,rfl,d,l⟩:=h;rw[gS]at d;obtain⟨y,b⟩:∃y,M[k]? = some y:=⟨_,qC (by omega)⟩
 obtain⟨c1,c2⟩:=j8.cell f d.symm b;have a:=i y (qM b);obtain⟨A,c,e⟩:=a.slice;rw[e]at c1 a;rw[JK b];exact⟨A,c,c1,c2,a⟩
theorem bN.drop{w wr:World}{g k:Nat}{L:LvL}(h:bN w g L wr)(r:k<5):bN w g (L.set k []) (wr.setCell ⟨g,k,none⟩ (.slice none 0 0)):=by
 obtain⟨M,b,i,l,rfl,c,m⟩:=h;rw[gS]at c;obtain⟨f,e,d,o,-⟩:=j8.some_ b (by omega);obtain rfl:g=f:=by cases e;rfl
 refine⟨M.set k fU,j8.put b c.symm fU,fun y a=>?_,l.set fun q n j y p a s=>(by cases n),rA _ _ _,by rw[List.length_set,gS,c],m.setCell d _⟩;rcases List.mem_or_eq_of_mem_set a with a|rfl
 ·exact j4.xF (i y a) b
 ·exact j4.nil _ _
theorem bN.put{w wr:World}{g k:Nat}{L:LvL}(h:bN w g L wr)(hk:k<5)(hl:(L.getD k []).length<=100000)(x:Int)(T:TypeId):
  ∃t m c0 A c w2,wr.cell? ⟨g,k,none⟩=some (.slice t m c0)/\(Builtin.append_ #[96,96] T #[.slice t m c0,.slice (some ⟨wr.heap.size,0,none⟩) 1 1]).run prog (wr.alloc (.cells #[.int .i64 x] 3)) = .ok (.slice A (m+1) c) w2 /\
   (∃u,w2.cell? ⟨g,k,none⟩=some u)/\w2.frozen? ⟨g,k,none⟩=false/\bN w g (uD L k x) (w2.setCell ⟨g,k,none⟩ (.slice A (m+1) c)):=by
 obtain⟨M,I,J,K,rfl,r,C⟩:=h;rw[gS]at r;obtain⟨y,n⟩:∃y,M[k]? = some y:=⟨_,qC (by omega)⟩
 obtain⟨c1,c2⟩:=j8.cell I r.symm n;have N:=J y (qM n);obtain⟨t,c0,e⟩:=N.slice;rw[JK n]at hl;have o:=(Below.refl wr.heap.size wr).alloc (qK _) (.cells #[.int .i64 x] 3);have Q:=j4.below N o (qK _);obtain⟨A,c,w2,G,O,H,a⟩:=JX (m:=[x]) Q (T8 wr x) (by simp;omega) (qO C.size o.size) T;have B:=j8.grown (j8.below I o (qK _)) Q H
 have aa:∀z∈M,z.v.ownBlock≠y.v.ownBlock∨z.v.ownBlock=none->j4 w2 w.heap.size z.v z.l:=fun z p d =>
  lC (j4.below (J z p) o (qK _)) (F:=y.v.ownBlock.toList) (jG.grown (jG.refl _ _) H (fun q s=>qX (by rw[s];simp))) (fun b D hm=>by
   rcases d with d|d
   ·exact d (by rw[D];have:y.v.ownBlock=some b:=(by simpa using hm);rw[this])
   ·rw[D]at d;cases d)
 obtain⟨Z,W,X,P,-⟩:=j8.some_ I (by omega);obtain rfl:g=Z:=by cases W;rfl
 obtain⟨U,V⟩:=j8.cell B r.symm n;have ac:y.l.length+[x].length=y.l.length+1:=rfl;rw[ac]at G O a;rw[e]at c1 G;have ab:Below w.heap.size w w2:=(C.alloc C.size _).trans (QQ H (qO C.size o.size) (fun q s=>(j4.block N q s).1));refine⟨t,y.l.length,c0,A,c,w2,c1,G,⟨_,U⟩,V,M.set k ⟨.slice A (y.l.length+1) c,y.l++[x]⟩,j8.put B r.symm _,fun z p=>?_,K.set fun q s j z hj p S=>?_, ?_,by rw[Qe,gS,r],ab.setCell X _⟩
 ·obtain⟨i,f⟩:=List.getElem?_of_mem p;rw[List.getElem?_set]at f;split at f
  ·split at f
   ·obtain rfl:(⟨.slice A (y.l.length+1) c,y.l++[x]⟩:LvS)=z:=(by simpa using f);exact j4.xF O B
   ·cases f
  ·rename_i d;refine j4.xF (aa z (qM f) ?_) B;cases D:z.v.ownBlock with
   | none=>exact qY rfl
   | some b=>exact qX (fun P=>K i k z y f n (fun Y=>d Y.symm) b D P.symm)
 ·have R:(Value.slice A (y.l.length+1) c).ownBlock=some q:=s;rcases a with a|a
  ·rw[R]at a;exact K j k z y p n hj q S a.symm
  ·rw[R]at a;have b1:=(j4.block (J z (qM p)) q S).2;have:q=(wr.alloc (.cells #[.int .i64 x] 3)).heap.size:=(by injection a);have:=o.size;omega
 ·rw[rA];unfold uD;rw[JK n]
theorem bN.row{w wr:World}{g:Nat}{L:LvL}(h:bN w g L wr):∃M,j8 wr w.heap.size (.slice (some ⟨g,0,none⟩) 5 5) M/\uL wr w.heap.size M/\5=M.length/\lvl M=L/\Below w.heap.size w wr:=by
 obtain⟨M,a,b,f,rfl,c,d⟩:=h;exact⟨M,a,b,by rw[<-gS,c],rfl,d⟩
theorem bN.trimmed{w wr:World}{g:Nat}{L:LvL}(h:bN w g L wr):Calls prog 102 #[.slice (some ⟨g,0,none⟩) 5 5] wr fun e w'=>∃A c,e = .returned (.slice A (jI L).length c)/\vJ w' w.heap.size (.slice A (jI L).length c) (jI L)/\Below w.heap.size w w':=by
 obtain⟨M,a,b,d,rfl,f⟩:=h.row;refine(qQc _ 5 5 _ M wr a b d (by omega)).mono ?_;rintro e w'⟨A,t,c,rfl,rfl,i,rfl⟩;exact⟨A,c,rfl,i,f⟩
def mi(w:World)(R:LvL)(k:Int)(e:Ending)(w':World):Prop:=∃A c,e = .returned (.tuple #[.slice A (js R k).length c,.int .i64 (ki R k)])/\j4 w' w.heap.size (.slice A (js R k).length c) (js R k)/\Below w.heap.size w w'
def cw(w:World)(T:LvL)(E:Int)(e:Ending)(w':World):Prop:=∃A c,e = .returned (.tuple #[.slice A T.length c,.int .i64 E])/\vJ w' w.heap.size (.slice A T.length c) T/\Below w.heap.size w w'
theorem BP{R:LvL}{k:Int}(h:yT R=false∨k<0∨4<k):ki R k=2/\js R k=[]:=by
 have e:ki R k=2:=by unfold ki;rw[qV h]
 exact⟨e,by unfold js;rw[e];rfl⟩
theorem BR{R:LvL}{k:Int}(a:yT R=true)(b:0<=k)(c:k<=4)(h:(ke R).getD k.toNat []=[]):ki R k=4/\js R k=[]:=by
 have e:ki R k=4:=by
  unfold ki;rw[qZ (by rintro (e | e | e);rw[a]at e;cases e;omega;omega),qV h]
 exact⟨e,by unfold js;rw[e];rfl⟩
theorem qQd{R:LvL}{k:Int}{x:List Int}(b:yT R=true)(c:0<=k)(d:k<=4)(h:(ke R).getD k.toNat []=x)(a:x≠[]):ki R k=0/\js R k=x:=by
 have e:ki R k=0:=by
  unfold ki;rw[qZ (by rintro (e | e | e);rw[b]at e;cases e;omega;omega),qZ (by rw[h];exact a)]
 exact⟨e,by unfold js;rw[qV e,h]⟩
theorem QF{w:World}{R:LvL}{k E:Int}(h:ki R k=E/\js R k=[]):Hid (∀w',Below w.heap.size w w'->mi w R k (.returned (.tuple #[.slice none 0 0,.int .i64 E])) w'):=qQ fun w' a=>by
 unfold mi;rw[h.1,h.2];exact⟨none,0,rfl,j4.nil _ _,a⟩
theorem qQf{w:World}{R:LvL}{k:Int}{x:List Int}(h:ki R k=0/\js R k=x):Hid (∀A c w',j4 w' w.heap.size (.slice A x.length c) x->Below w.heap.size w w'->mi w R k (.returned (.tuple #[.slice A x.length c,.int .i64 0])) w'):=qQ fun A c w' b a=>by
 unfold mi;rw[h.1,h.2];exact⟨A,c,rfl,b,a⟩
theorem rI{w:World}{T:LvL}{E E':Int}(a:E=E')(b:T=[]):Hid (∀w',Below w.heap.size w w'->cw w T E (.returned (.tuple #[.slice none 0 0,.int .i64 E'])) w'):=qQ fun w' c=>by
 subst a b;exact⟨none,0,rfl,vJ.nil _ _,c⟩
theorem BS{R:LvL}{n:Int}(h:yT R=false∨n<0∨n∈R.flatten):vd R n=2/\kJ R n=[]:=by
 have e:vd R n=2:=by unfold vd;rw[qV h]
 exact⟨e,by unfold kJ;rw[e];rfl⟩
theorem qQh{R:LvL}{n:Int}(a:yT R=true)(c:0<=n)(b:n ∉ R.flatten)(h:R.flatten.length=40):vd R n=60/\kJ R n=[]:=by
 have e:vd R n=60:=by
  unfold vd;rw[qZ (by rintro (e | e | e);rw[a]at e;cases e;omega;exact b e),qV h]
 exact⟨e,by unfold kJ;rw[e];rfl⟩
theorem qQl{R:LvL}{n:Int}(a:yT R=true)(c:0<=n)(b:n ∉ R.flatten)(h:R.flatten.length≠40):vd R n=0/\kJ R n=jI (uD (ke R) 0 n):=by
 have e:vd R n=0:=by
  unfold vd;rw[qZ (by rintro (e | e | e);rw[a]at e;cases e;omega;exact b e),qZ h]
 exact⟨e,by unfold kJ;rw[qV e]⟩
theorem qQm{R:LvL}{k n:Int}(h:ki R k≠0):vw R k n=ki R k/\kN R k n=[]:=by
 have e:vw R k n=ki R k:=by unfold vw;rw[qV h]
 exact⟨e,by unfold kN;rw[qZ (by rw[e];exact h)]⟩
theorem qQn{R:LvL}{k n:Int}(h:ki R k=0)(a:n<0∨n∈R.flatten):vw R k n=2/\kN R k n=[]:=by
 have e:vw R k n=2:=by unfold vw;rw[qZ (by rw[h];exact fun h=>h rfl),qV a]
 exact⟨e,by unfold kN;rw[e];rfl⟩
theorem qQp{R:LvL}{k n:Int}(h:ki R k=0)(b:0<=n)(a:n ∉ R.flatten):vw R k n=0/\kN R k n=jI (uD ((ke R).set k.toNat []) (toL k.toNat) n):=by
 have e:vw R k n=0:=by unfold vw;rw[qZ (by rw[h];exact fun h=>h rfl),qZ (by rintro (e | e);omega;exact a e)]
 exact⟨e,by unfold kN;rw[qV e]⟩
theorem qQr{R:LvL}(h:yT R=true):R.length<=5/\R.flatten.length<=40:=⟨(of_decide_eq_true h).1,(of_decide_eq_true h).2.1⟩
theorem BT(v:Value)(R:LvL)(k:Int)(w:World)(h:jn w v R)(q:R.flatten.length<=100000)(o:R.length<=100000):
  Calls prog 43 #[v,.int .i64 k] w (mi w R k):=by
 have g:=qQ (JI v R w h q o);cases f:yT R with
 | false =>
   have d:=QF (w:=w) (BP (R:=R) (k:=k) (qX f));rw[f]at g;clear h q o f;go_enter func43,ntmps43;go_wp2_with fail;refine g.out.mono ?_;rintro e y⟨rfl,a⟩;have c:=qQ a;clear a;go_wp2;go_ret2;exact d.out _ c.out
 | true =>
   rw[f]at g;by_cases s:k<0∨4<k
   ·have d:=QF (w:=w) (BP (R:=R) (k:=k) (qY s));clear h q o f;have F:(k<0)∨(¬k<0/\5<=k):=(by omega);clear s;rcases F with F|⟨F,ab⟩
    ·go_enter func43,ntmps43;go_wp2_with fail;refine g.out.mono ?_;rintro e y⟨rfl,a⟩;have c:=qQ a;clear a;go_wp2;go_ret2;exact d.out _ c.out
    ·go_enter func43,ntmps43;go_wp2_with fail;refine g.out.mono ?_;rintro e y⟨rfl,a⟩;have c:=qQ a;clear a;go_wp2;go_ret2;exact d.out _ c.out
   ·obtain⟨j,rfl⟩:∃j:Nat,k=(j:Nat):=⟨k.toNat,by omega⟩
    have hj:j<=4:=(by omega);have i:(ke R).getD ((j:Nat):Int).toNat []=R.getD j []:=(by rw[qh,lE]);have q1:decide (((j:Nat):Int)<0)=false:=qW (by omega);have q2:decide ((5:Int)<=((j:Nat):Int))=false:=qW (by omega);have q3:¬(5:Int)<=((j:Nat):Int):=(by omega);obtain⟨A,off,aa,rfl,-,B⟩:=h.form;rcases Nat.lt_or_ge j R.length with T|J
    ·obtain⟨x,t⟩:∃x,R[j]? = some x:=⟨_,qC T⟩
     obtain⟨b,u,rfl,a,c1,r⟩:=B j x t;have U:=oS t;have D:R.getD j []=x:=(by rw[qz,t];rfl);rw[D]at i;have X:decide (((R.length:Nat):Int)<=((j:Nat):Int))=false:=qW (by omega);have Y:decide (R.length<=j)=false:=qW (by omega);have q6:((j:Nat):Int)<((R.length:Nat):Int):=(by omega);by_cases z:x=[]
     ·subst z;have d:=QF (w:=w) (BR (k:=(j:Nat)) f (by omega) (by omega) i);obtain⟨N,V,c2,rfl,-,-⟩:=r.form;have q7:((([]:List Int).length:Nat):Int)=0:=rfl;clear h q o f B t r D i U s;generalize R.length=n at*;go_enter func43,ntmps43;go_wp2_with fail;refine g.out.mono ?_;rintro e y⟨rfl,l⟩;have c:=qQ l;have G:=(l.cell (p:=⟨b,off+j,none⟩) a).trans c1;rw[List.length_nil]at G;clear l c1;go_wp2;go_ret2;exact d.out _ c.out
     ·have d:=qQf (w:=w) (qQd (k:=(j:Nat)) f (by omega) (by omega) i z);have C:=qQ (fun W (S:Below w.heap.size w W)=>JZ u x W (r.below S (qK _)) (by omega));have M:=List.length_pos_iff.2 z;obtain⟨N,V,c2,rfl,-,-⟩:=r.form;unfold bI at C;clear h q o f B t r D i s z;generalize R.length=n at*;obtain⟨m,L⟩:∃m,m=x.length:=⟨_,rfl⟩
      rw[<-L]at d C M c1;have q8:(((m:Nat):Int)==0)=false:=qv.2 (by omega);have q9:(m==0)=false:=qv.2 (by omega);clear L M;go_enter func43,ntmps43;go_wp2_with fail;refine g.out.mono ?_;rintro e y⟨rfl,l⟩;have c:=qQ l;have G:=(l.cell (p:=⟨b,off+j,none⟩) a).trans c1;clear l c1;go_wp2_with fail;refine(C.out _ c.out).mono ?_;rintro e Z⟨O,Q,rfl,H,I⟩;have P:=qQ (d.out O Q Z (j4.down H c.out.size) (bj c.out I));clear H I;go_wp2;go_ret2;exact P.out
    ·have K:R.getD j []=[]:=(by rw[qz,List.getElem?_eq_none J];rfl);rw[K]at i;have d:=QF (w:=w) (BR (k:=(j:Nat)) f (by omega) (by omega) i);have X:decide (((R.length:Nat):Int)<=((j:Nat):Int))=true:=qA (by omega);have Y:decide (R.length<=j)=true:=qA J;clear h q o f B K i s;generalize R.length=n at*;go_enter func43,ntmps43;go_wp2_with fail;refine g.out.mono ?_;rintro e y⟨rfl,a⟩;have c:=qQ a;clear a;go_wp2;go_ret2;exact d.out _ c.out
theorem qQs(v:Value)(R:LvL)(n:Int)(w:World)(h:jn w v R)(i:R.flatten.length<=100000)(q:R.length<=100000):
  Calls prog 40 #[v,.int .i64 n] w (cw w (kJ R n) (vd R n)):=by
 have t:=qQ (JI v R w h i q);have s:=qQ (fun W (B:Below w.heap.size w W)=>BG v R n W (h.below B (qK _)) i q);have r:=qQ (fun W (B:Below w.heap.size w W)=>me v R W (h.below B (qK _)) i q);cases f:yT R with
 | false =>
   obtain⟨b,c⟩:=BS (R:=R) (n:=n) (qX f);have A:=rI (w:=w) b c;rw[f]at t;clear h i q f b c s r;generalize kJ R n=T at*;generalize vd R n=E at*;go_enter func40,ntmps40;go_wp2_with fail;refine t.out.mono ?_;rintro e G⟨rfl,a⟩;have d:=qQ a;clear a;go_wp2;go_ret2;exact A.out _ d.out
 | true =>
   rw[f]at t;by_cases j:n<0∨n∈R.flatten
   ·obtain⟨b,c⟩:=BS (R:=R) (n:=n) (qY j);have A:=rI (w:=w) b c
    have o:(decide (0<=n)&&!decide (n∈R.flatten))=false:=by
     rcases j with j|j
     ·rw[qW (by omega:¬0<=n)];rfl
     ·rw[qA j];simp
    rw[o]at s;clear h i q f b c r j o;generalize kJ R n=T at*;generalize vd R n=E at*;go_enter func40,ntmps40;go_wp2_with fail;refine t.out.mono ?_;rintro e G⟨rfl,a⟩;have d:=qQ a;clear a;go_wp2_with fail;refine(s.out _ d.out).mono ?_;rintro e Q⟨rfl,a⟩;have p:=qQ (bj d.out a);clear a;go_wp2;go_ret2;exact A.out _ p.out
   ·have C:0<=n:=(by omega);have D:n ∉ R.flatten:=fun e=>j (qY e)
    have o:(decide (0<=n)&&!decide (n∈R.flatten))=true:=(by rw[qA C,qW D];rfl);rw[o]at s;unfold bI at r;by_cases y:R.flatten.length=40
    ·obtain⟨b,c⟩:=qQh f C D y;have A:=rI (w:=w) b c;rw[y]at r;clear h i q f b c j o C D y;generalize kJ R n=T at*;generalize vd R n=E at*;go_enter func40,ntmps40;go_wp2_with fail;refine t.out.mono ?_;rintro e G⟨rfl,a⟩;have d:=qQ a;clear a;go_wp2_with fail;refine(s.out _ d.out).mono ?_;rintro e Q⟨rfl,a⟩;have p:=qQ (bj d.out a);clear a;go_wp2_with fail;refine(r.out _ p.out).mono ?_;rintro e w3⟨S,c3,rfl,-,a⟩;have z:=qQ (bj p.out a);clear a;go_wp2;go_ret2;exact A.out _ z.out
    ·obtain⟨b,c⟩:=qQl f C D y;obtain⟨F,ad⟩:=qQr f;have I:=qQ (fun W (B:Below w.heap.size w W)=>BN v R W (h.below B (qK _)) i F);have ab:=qQ (fun W W' g (o:gh W g 5 R R.length W')=>o.rows F)
     have ac:=qQ (show((ke R).getD 0 []).length<=100000 by
      rw[lE,qz];cases hx:R[0]? with
      | none=>exact qF _
      | some x=>have:=oS hx;exact qO this i)
     have q1:(((R.flatten.length:Nat):Int)==40)=false:=qv.2 (by omega);have q2:(R.flatten.length==40)=false:=qv.2 y;have Y:=qQ b;have Z:=qQ c;unfold QD at I;clear h i q f b c j o C D y F ad;generalize R.flatten=l at*;generalize l.length=m at*;generalize kJ R n=T at*;generalize vd R n=E at*;go_enter func40,ntmps40;go_wp2_with fail;refine t.out.mono ?_;rintro e G⟨rfl,a⟩;have d:=qQ a;clear a;go_wp2_with fail;refine(s.out _ d.out).mono ?_;rintro e Q⟨rfl,a⟩;have p:=qQ (bj d.out a);clear a;go_wp2_with fail;refine(r.out _ p.out).mono ?_;rintro e w3⟨S,c3,rfl,-,a⟩;have z:=qQ (bj p.out a);clear a;go_wp2_with fail;refine(I.out _ z.out).mono ?_;rintro e w4⟨g,rfl,P⟩;obtain⟨A0,m0,c0,A4,c4,w5,a1,K,⟨u,a3⟩,a4,L⟩:=(ab.out _ _ _ P).put (k:=0) (by omega) ac.out n 96;have J:=qQ L.trimmed;have V:=qQ K;rw[<-Z.out]at J;clear P K L;go_wp2_with (first | (at_builtin;refine yI rfl _ _ rfl rfl rfl V.out ?_) | fail);refine J.out.mono ?_;rintro e w6⟨H,M,rfl,N,O⟩;have U:=qQ (N.down z.out.size);have X:=qQ (bj z.out O);have aa:=qQ (show cw w T E (.returned (.tuple #[.slice H T.length M,.int .i64 0])) w6 from⟨H,M,by rw[Y.out],U.out,X.out⟩);clear N O;go_wp2;go_ret2;exact aa.out
theorem qQt{R:LvL}(h:R.flatten.length<=100000)(k:Nat):(R.getD k []).length<=100000:=by
 rw[qz];cases a:R[k]? with
 | none=>exact qF _
 | some x=>have:=oS a;exact qO this h
theorem qQa{R:LvL}(h:∀k,(R.getD k []).length<=100000)(i k:Nat):((R.set i []).getD k []).length<=100000:=by
 rw[qz,List.getElem?_set];split
 ·split
  ·exact qF _
  ·exact qF _
 ·have:=h k
  rwa [qz]at this
theorem rL{R:LvL}{n:Int}{W wr:World}{g:Nat}(s:∀i k,(((ke R).set i []).getD k []).length<=100000)(h:bN W g (ke R) wr)(i t:Nat)(hi:i<5)(v:t<5):
  ∃u0 c a c0 d f b u,wr.cell? ⟨g,i,none⟩=some u0/\wr.frozen? ⟨g,i,none⟩=false/\(wr.setCell ⟨g,i,none⟩ (.slice none 0 0)).cell? ⟨g,t,none⟩=some (.slice c a c0) /\
   (Builtin.append_ #[96,96] 96 #[.slice c a c0,.slice (some ⟨wr.heap.size,0,none⟩) 1 1]).run prog ((wr.setCell ⟨g,i,none⟩ (.slice none 0 0)).alloc (.cells #[.int .i64 n] 3)) = .ok (.slice d (a+1) f) b /\
   b.cell? ⟨g,t,none⟩=some u/\b.frozen? ⟨g,t,none⟩=false/\bN W g (uD ((ke R).set i []) t n) (b.setCell ⟨g,t,none⟩ (.slice d (a+1) f)):=by
 obtain⟨z,A,q,r,-⟩:=h.at_ (k:=i) hi;obtain⟨c,a,c0,d,f,b,l,j,⟨u,m⟩,o,p⟩:=(h.drop (k:=i) hi).put (k:=t) v (s _ _) n 96;have y:(wr.setCell ⟨g,i,none⟩ (.slice none 0 0)).heap.size=wr.heap.size:=by simp[World.setCell]
 rw[y]at j;exact⟨_,c,a,c0,d,f,b,u,q,r,l,j,m,o,p⟩
theorem qQe(v:Value)(R:LvL)(k n:Int)(w:World)(h:jn w v R)(o:R.flatten.length<=100000)(A:R.length<=100000):
  Calls prog 46 #[v,.int .i64 k,.int .i64 n] w (cw w (kN R k n) (vw R k n)):=by
 have z:=qQ (BT v R k w h o A);have y:=qQ (fun W (C:Below w.heap.size w W)=>BG v R n W (h.below C (qK _)) o A);unfold mi at z;by_cases b:ki R k=0
 ·rw[b]at z;by_cases f:n<0∨n∈R.flatten
  ·obtain⟨c,d⟩:=qQn b f;have B:=rI (w:=w) c d
   have l:(decide (0<=n)&&!decide (n∈R.flatten))=false:=by
    rcases f with f|f
    ·rw[qW (by omega:¬0<=n)];rfl
    ·rw[qA f];simp
   rw[l]at y;clear h o A c d f l b;generalize kN R k n=T at*;generalize vw R k n=E at*;generalize js R k=x at*;generalize x.length=m at*;go_enter func46,ntmps46;go_wp2_with fail;refine z.out.mono ?_;rintro e S⟨H,c1,rfl,-,a⟩;have j:=qQ a;clear a;go_wp2_with fail;refine(y.out _ j.out).mono ?_;rintro e w2⟨rfl,a⟩;have s:=qQ (bj j.out a);clear a;go_wp2;go_ret2;exact B.out _ s.out
  ·have F:0<=n:=(by omega);have G:n ∉ R.flatten:=fun e=>f (qY e)
   have l:(decide (0<=n)&&!decide (n∈R.flatten))=true:=(by rw[qA F,qW G];rfl);rw[l]at y;obtain⟨c,d⟩:=qQp b F G;obtain⟨D,aa,ab,-,-⟩:=nD b;have J:=qQ (fun W (C:Below w.heap.size w W)=>BN v R W (h.below C (qK _)) o D.1);have Y:=qQ (fun W Z g (l:gh W g 5 R R.length Z)=>l.rows D.1);have t:=qQ (fun i k=>qQa (R:=ke R) (fun k=>by rw[lE];exact qQt o k) i k);have V:=qQ c;have p:=qQ d;unfold QD at J;clear h o A c d f l b D F G;generalize kN R k n=T at*;generalize vw R k n=E at*;generalize js R k=x at*;generalize x.length=m at*;have hk:k=0∨k=1∨k=2∨k=3∨k=4:=(by omega);clear aa ab;have m1:min (1:Int) 4=1:=(by decide);have m2:min (2:Int) 4=2:=(by decide);have m3:min (3:Int) 4=3:=(by decide);have m4:min (4:Int) 4=4:=(by decide);have m5:min (5:Int) 4=4:=(by decide);rcases hk with rfl|rfl|rfl|rfl|rfl
   case' inl =>
    have q:=qQ (show T=jI (uD ((ke R).set 0 []) 1 n) from p.out);have r:=qQ (fun W wr g h=>rL (R:=R) (n:=n) (W:=W) (wr:=wr) (g:=g) t.out h 0 1 (by omega) (by omega))
   case' inr.inl =>
    have q:=qQ (show T=jI (uD ((ke R).set 1 []) 2 n) from p.out);have r:=qQ (fun W wr g h=>rL (R:=R) (n:=n) (W:=W) (wr:=wr) (g:=g) t.out h 1 2 (by omega) (by omega))
   case' inr.inr.inl =>
    have q:=qQ (show T=jI (uD ((ke R).set 2 []) 3 n) from p.out);have r:=qQ (fun W wr g h=>rL (R:=R) (n:=n) (W:=W) (wr:=wr) (g:=g) t.out h 2 3 (by omega) (by omega))
   case' inr.inr.inr.inl =>
    have q:=qQ (show T=jI (uD ((ke R).set 3 []) 4 n) from p.out);have r:=qQ (fun W wr g h=>rL (R:=R) (n:=n) (W:=W) (wr:=wr) (g:=g) t.out h 3 4 (by omega) (by omega))
   case' inr.inr.inr.inr =>
    have q:=qQ (show T=jI (uD ((ke R).set 4 []) 4 n) from p.out);have r:=qQ (fun W wr g h=>rL (R:=R) (n:=n) (W:=W) (wr:=wr) (g:=g) t.out h 4 4 (by omega) (by omega))
   all_goals
    clear p;go_enter func46,ntmps46;go_wp2_with fail;refine z.out.mono ?_;rintro e S⟨H,c1,rfl,-,a⟩;have j:=qQ a;clear a;go_wp2_with fail;refine(y.out _ j.out).mono ?_;rintro e w2⟨rfl,a⟩;have s:=qQ (bj j.out a);clear a;go_wp2_with fail;refine(J.out _ s.out).mono ?_;rintro e w3⟨g,rfl,Q⟩;obtain⟨u0,A0,m0,c0,A4,c4,w5,u,b1,b2,a1,L,a3,a4,M⟩:=r.out _ _ _ (Y.out _ _ _ Q);clear Q r;have K:=qQ M.trimmed;rw[<-q.out]at K;have U:=qQ L;clear L M q;go_wp2_with (first | (at_builtin;refine yI rfl _ _ rfl rfl rfl U.out ?_) | fail);refine K.out.mono ?_;rintro e w6⟨I,N,rfl,O,P⟩;have X:=qQ (show cw w T E (.returned (.tuple #[.slice I T.length N,.int .i64 0])) w6 from⟨I,N,by rw[V.out],O.down s.out.size,bj s.out P⟩);clear O P;go_wp2;go_ret2;exact X.out
 ·obtain⟨c,d⟩:=qQm (n:=n) b;have B:=rI (w:=w) c d;have q1:(ki R k != 0)=true:=by simp[b]
  have q2:(ki R k==0)=false:=by simp[b]
  clear h o A c d b y;generalize kN R k n=T at*;generalize vw R k n=E at*;generalize ki R k=E' at*;generalize js R k=x at*;generalize x.length=m at*;go_enter func46,ntmps46;go_wp2_with fail;refine z.out.mono ?_;rintro e S⟨H,c1,rfl,-,a⟩;have j:=qQ a;clear a;go_wp2;go_ret2;exact B.out _ j.out
end
end Go.Proofs.YtokbfellcadkpaaGreat

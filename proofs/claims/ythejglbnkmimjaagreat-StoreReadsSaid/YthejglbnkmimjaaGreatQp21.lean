import Derived.Test.YthejglbnkmimjaaGreatQp10
import Derived.Test.YthejglbnkmimjaaGreatQp19
import Derived.RangeFuncNested
import Derived.RangeFuncBound
import Derived.OwnWalkIn
import Derived.TacticsInMore
import Derived.LoopNIn
import Derived.LoopIn
import Derived.Stop.RegionWithIn
set_option linter.unusedVariables false
set_option maxRecDepth 100000
set_option maxHeartbeats 9000000
namespace Go.Proofs.YthejglbnkmimjaaGreat
open Proofs.Tryz
section
open Go.RowKit
attribute [local go_sem] cq
theorem qZ8(s:Tw)(f:Int)(v:Value)(l:List jj)(w:World)(h:lJ w s f v l)(a:¬kQ s f l=0):
  Calls prog 87 #[km s f v] w (X3 (.tuple #[.string ByteArray.empty,.int .i64 (kQ s f l)]) w):=by
 have d:=fun W (i:Below w.1.size w W)=>QF s f v l W (h.below i)
 obtain⟨A,c,rfl⟩:=h.v.form;have g:Below w.1.size w (w.alloc (.cells #[s,f,.slice A l.length c] 92)):=(qU _ _).alloc (qK _) _;have b:=qQ (d _ g);unfold km at b ⊢;have m:(kQ s f l != 0)=true:=by simp;exact a
 have n:(kQ s f l==0)=false:=by simp;exact a
 clear a d h;generalize kQ s f l=k at*;go_enter func87,ntmps87;go_wp2_with fail;refine b.out.mono ?_;rintro e o⟨rfl,j⟩;go_wp2;go_ret2;exact⟨rfl,g.trans (j.mono (by simp))⟩
theorem qZ9(s:Tw)(f:Nat)(p g c:Nat)(l:List jj)(w:World)(hf:f<=1073741824)(hs:s.size<=32)(hl:l.length<=8)(L:∀x∈l,mK x)(M:p<w.1.size)
  (hC:∀W,Below w.1.size w W->Calls prog 40 #[km s (f:Nat) (.slice (some ⟨p,g,none⟩) l.length c)] W (X3 (.int .i64 0) W))
  (A:∀i x,l[i]? = some x->w.cell? ⟨p,g+i*3,none⟩=some (.string x.t)/\w.cell? ⟨p,g+i*3+1,none⟩=some (.string x.d)/\w.cell? ⟨p,g+i*3+2,none⟩=some (.float .f64 x.b)):
  Calls prog 87 #[km s (f:Nat) (.slice (some ⟨p,g,none⟩) l.length c)] w (X3 (.tuple #[.string (uC s f l),.int .i64 0]) w):=by
 have K:Below w.1.size w (w.alloc (.cells #[s,f,.slice (some ⟨p,g,none⟩) l.length c] 92)):=(qU _ _).alloc (qK _) _;have H:=qQ (hC _ K);unfold km at H ⊢;clear hC;go_enter func87,ntmps87;go_wp2_with fail;refine H.out.mono ?_;rintro e j⟨rfl,q⟩;have k0:j.cell? ⟨w.1.size,0,none⟩=some (.string s):=jm q (by simp) (World.cell?_alloc_at _ _ _ _ rfl);have k1:j.cell? ⟨w.1.size,1,none⟩=some (.int .i64 (f:Nat)):=jm q (by simp) (World.cell?_alloc_at _ _ _ _ rfl);have k2:j.cell? ⟨w.1.size,2,none⟩=some (.slice (some ⟨p,g,none⟩) l.length c):=jm q (by simp) (World.cell?_alloc_at _ _ _ _ rfl);have aq:=q.size;rw[World.size_alloc]at aq;have u:=K.trans (q.mono (by simp));clear q K H;have ag:=fun i x v=>(⟨jm u M (A i x v).1,jm u M (A i x v).2.1,jm u M (A i x v).2.2⟩:j.cell? ⟨p,g+i*3,none⟩=some (.string x.t)/\j.cell? ⟨p,g+i*3+1,none⟩=some (.string x.d)/\j.cell? ⟨p,g+i*3+2,none⟩=some (.float .f64 x.b))
 have C:w.1.size<j.1.size:=by omega
 have N:p<j.1.size:=by omega
 have I:=Wrt.fresh j;have V:=qQ fun W=>YS s W (by omega)
 have hP:∀W:World,Calls prog 142 #[.int .u64 (f:Nat),.int .i64 8] W (X3 (.string (bs (be 8 f))) W):=fun W=>bK f 8 W (by omega) (by omega) (by omega)
 have ab:∀W:World,Calls prog 142 #[.int .u64 (l.length:Nat),.int .i64 1] W (X3 (.string (bs (be 1 l.length))) W):=fun W=>bK l.length 1 W (by omega) (by omega) (by omega)
 have S:=qQ hP;have U:=qQ ab;clear hP ab A;have am:IntKind.u64.wrap (f:Int)=(f:Int):=by rw[IntKind.wrap_u64];omega
 have an:IntKind.u64.wrap (l.length:Int)=(l.length:Int):=by rw[IntKind.wrap_u64];omega
 have ao:(f:Int)%18446744073709551616=(f:Int):=by omega
 have ap:(l.length:Int)%18446744073709551616=(l.length:Int):=by omega
 have z1:(bs (be 2 s.size)++s).size=s.size+2:=by rw[qx,kK,jn];omega
 have z2:(bs (be 8 f)).size=8:=by rw[kK,jn]
 have z3:(bs (be 1 l.length)).size=1:=by rw[kK,jn]
 have aa:cA s f l.length=bs (be 2 s.size)++s++bs (be 8 f)++bs (be 1 l.length):=rfl;have au:=JC s f l.length;have HE:=qQ (show uC s f l=cA s f l.length++kR l from rfl);generalize cA s f l.length=B at*;generalize bs (be 2 s.size)++s=T at*;generalize bs (be 8 f)=Q at*;generalize bs (be 1 l.length)=R at*;go_wp2_with fail;have j0:=jm I.o C k0;refine KG (V.out _) fun w2 ac=>?_;have W1:=I.below ac;have a:=qQ (W1.write T (by simp;omega));clear ac I j0 W1;go_wp2_with fail;refine KG a.out fun w3 y=>?_;rw[ByteArray.empty_append]at y;have j1:=jm y.o C k1;clear a;go_wp2_with fail;refine KG (S.out _) fun w4 ad=>?_;have a:=qQ ((y.below ad).write Q (by omega));clear ad y j1;go_wp2_with fail;refine KG a.out fun w5 J=>?_;have P:=jm J.o C k2;clear a;go_wp2_with fail;refine KG (U.out _) fun w6 ae=>?_;have a:=qQ ((J.below ae).write R (by rw[qx];omega));clear ae J P;go_wp2_with fail;refine KG a.out fun w7 z=>?_;rw[<-aa]at z;have P:=jm z.o C k2;clear a aa z1 z2 z3 S U V am an ao ap k0 k1;have Y:=qQ fun k x h=>Gb l k x h
 have aj:=fun k (h:k<=l.length)=>JB (l:=l.take k) (fun x v=>(L x (List.mem_of_mem_take v)).c)
 have X:=qQ aj;clear aj;go_wp2;go_loopw [30] (fun i wr=>∃k:Nat,k<=l.length/\i=.int .i64 k/\Wrt j (B++kR (l.take k)) wr) (fun i _=>l.length-(intOf i).toNat)
 case atStart=>exact⟨0,qI _,rfl,by simpa[kR] using z⟩
 case round =>
  obtain⟨k,hk,rfl,m⟩:=hrel;clear z P;by_cases al:k<l.length
  ·obtain⟨x,D⟩:∃x,l[k]? = some x:=⟨l[k],qD al⟩
   obtain⟨a0,a1,a2⟩:=ag k x D;have F:=L x (qM D);have G:=qQ fun W=>Ry x.t x.d x.b W F.b F.c
   have q0:=jm m.o N a0;have q1:=jm m.o N a1;have q2:=jm m.o N a2;have hn:=Y.out k x D;have ai:=X.out k (by omega);rw[qT]at ai;have O:evB x.t x.d x.b=bu x:=rfl
   have ar:(B++kR (l.take k)).size+(bu x).size<=1000000:=by
    rw[qx];have h1:=Ub x.t x.d x.b;have h2:=oI.1 (show chk x.t x.d=0 from F.c);rw[O]at h1;omega
   have ah:B++kR (l.take k)++bu x=B++kR (l.take (k+1)):=(by rw[hn,JA,ByteArray.append_assoc]);have HN:=qQ ah;rw[O]at G;clear D a0 a1 a2 F ag L hn ai ah O X Y;generalize B++kR (l.take k)=Z at*;generalize bu x=E at*;obtain⟨t,d,n⟩:=x;simp only at q0 q1 q2 G;have s1:(k:Int)<(l.length:Int):=(by omega);have r:=m.alloc (.cells #[t,d,.float .f64 n] 64);go_wp2_with fail;refine KG (G.out _) fun w8 af=>?_;have a:=qQ ((r.below af).write E ar);clear af r m q0 q1 q2;go_wp2_with fail;refine KG a.out fun w9 r=>?_;rw[HN.out]at r;clear a;go_wp2;go_roundw
   case rel=>exact⟨k+1,by omega,by go_num,r⟩
   case measure=>simp[intOf];omega
  ·obtain rfl:k=l.length:=(by omega);have s1:¬(l.length:Int)<(l.length:Int):=(by omega);rw[List.take_length,<-HE.out]at m;have a:=qQ m.told;clear m;go_wp2_with fail;refine KG a.out fun w9 ak=>?_;go_wp2;go_ret2;exact⟨rfl,u.trans (ak.mono u.size)⟩
theorem qZq(s:Tw)(f:Int)(v:Value)(l:List jj)(w:World)(h:lJ w s f v l):
  Calls prog 87 #[km s f v] w (X3 (.tuple #[.string (oR s f l),.int .i64 (kQ s f l)]) w):=by
 unfold oR;by_cases a:kQ s f l=0
 ·rw[qV a,a];obtain⟨r,g,t,i,u,y,z⟩:=gh.1 a;obtain⟨A,c,n⟩:=h.v.form;subst n;obtain⟨p,q,rfl,m,d⟩:=h.v.pos (by omega);obtain⟨k,rfl⟩:∃k:Nat,f=k:=⟨f.toNat,by omega⟩
  rw[qm];refine qZ9 s k p q c l w (by omega) g i (JD a fun x o=>(h.x x o).b) m (fun W j=>?_) d;have:=QF s k _ l W (h.below j);rw[a]at this;exact this
 ·rw[qZ a];exact qZ8 s f v l w h a
end
end Go.Proofs.YthejglbnkmimjaaGreat

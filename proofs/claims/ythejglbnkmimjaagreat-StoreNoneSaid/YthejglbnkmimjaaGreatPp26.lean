import Derived.Test.YthejglbnkmimjaaGreatPp13
import Derived.Test.YthejglbnkmimjaaGreatPp24
import Derived.RangeFuncNested
import Derived.RangeFuncBound
import Derived.OwnWalkIn
import Derived.TacticsInMore
import Derived.LoopNIn
import Derived.LoopIn
import Derived.Stop.RegionWithIn
set_option linter.unusedVariables false
set_option maxRecDepth 100000
set_option maxHeartbeats 9000000
namespace Go.Proofs.YthejglbnkmimjaaGreat
open Tryz
section
open Go.RowKit
attribute [local go_sem] bA
theorem Pv(s:Tw)(f:Int)(v:Value)(l:List jD)(w:World)(h:lI w s f v l)(a:¬jg s f l=0):
  Calls prog 87 #[vJ s f v] w fun e w'=>e = .returned (.tuple #[.string ByteArray.empty,.int .i64 (jg s f l)])/\Below w.heap.size w w':=by
 have d:=fun W (i:Below w.heap.size w W)=>pA s f v l W (h.below i)
 obtain⟨A,c,rfl⟩:=h.v.form;have g:Below w.heap.size w (w.alloc (.cells #[.string s,.int .i64 f,.slice A l.length c] 92)):=(Below.refl _ _).alloc (qZ _) _;have b:=qQ (d _ g);unfold vJ at b ⊢;have m:(jg s f l != 0)=true:=by simp;exact a
 have n:(jg s f l==0)=false:=by simp;exact a
 clear a d h;generalize jg s f l=k at*;go_enter func87,ntmps87;go_wp2_with fail;refine b.out.mono ?_;rintro e o⟨rfl,j⟩;go_wp2;go_ret2;exact⟨rfl,g.trans (j.mono (by simp))⟩
theorem Py(s:Tw)(f:Nat)(p g c:Nat)(l:List jD)(w:World)(hf:f<=1073741824)(hs:s.size<=32)(hl:l.length<=8)(L:∀x∈l,lH x)(M:p<w.heap.size)
  (hC:∀W,Below w.heap.size w W->Calls prog 40 #[vJ s (f:Nat) (.slice (some ⟨p,g,none⟩) l.length c)] W fun e w'=>e = .returned (.int .i64 0)/\Below W.heap.size W w')
  (A:∀i x,l[i]? = some x->w.cell? ⟨p,g+i*3,none⟩=some (.string x.t)/\w.cell? ⟨p,g+i*3+1,none⟩=some (.string x.d)/\w.cell? ⟨p,g+i*3+2,none⟩=some (.float .f64 x.b)):
  Calls prog 87 #[vJ s (f:Nat) (.slice (some ⟨p,g,none⟩) l.length c)] w fun e w'=>e = .returned (.tuple #[.string (yi s f l),.int .i64 0])/\Below w.heap.size w w':=by
 have K:Below w.heap.size w (w.alloc (.cells #[.string s,.int .i64 (f:Nat),.slice (some ⟨p,g,none⟩) l.length c] 92)):=(Below.refl _ _).alloc (qZ _) _;have H:=qQ (hC _ K);unfold vJ at H ⊢;clear hC;go_enter func87,ntmps87;go_wp2_with fail;refine H.out.mono ?_;rintro e j⟨rfl,q⟩;have k0:j.cell? ⟨w.heap.size,0,none⟩=some (.string s):=vT q (by simp) (World.cell?_alloc_at _ _ _ _ rfl);have k1:j.cell? ⟨w.heap.size,1,none⟩=some (.int .i64 (f:Nat)):=vT q (by simp) (World.cell?_alloc_at _ _ _ _ rfl);have k2:j.cell? ⟨w.heap.size,2,none⟩=some (.slice (some ⟨p,g,none⟩) l.length c):=vT q (by simp) (World.cell?_alloc_at _ _ _ _ rfl);have aq:=q.size;rw[World.size_alloc]at aq;have u:=K.trans (q.mono (by simp));clear q K H;have ag:=fun i x v=>(⟨vT u M (A i x v).1,vT u M (A i x v).2.1,vT u M (A i x v).2.2⟩:j.cell? ⟨p,g+i*3,none⟩=some (.string x.t)/\j.cell? ⟨p,g+i*3+1,none⟩=some (.string x.d)/\j.cell? ⟨p,g+i*3+2,none⟩=some (.float .f64 x.b))
 have C:w.heap.size<j.heap.size:=by omega
 have N:p<j.heap.size:=by omega
 have I:=Wrt.fresh j;have V:=qQ fun W=>Xv s W (by omega)
 have hP:∀W:World,Calls prog 142 #[.int .u64 (f:Nat),.int .i64 8] W fun e w'=>e = .returned (.string (bs (be 8 f)))/\Below W.heap.size W w':=fun W=>uL f 8 W (by omega) (by omega) (by omega)
 have ab:∀W:World,Calls prog 142 #[.int .u64 (l.length:Nat),.int .i64 1] W fun e w'=>e = .returned (.string (bs (be 1 l.length)))/\Below W.heap.size W w':=fun W=>uL l.length 1 W (by omega) (by omega) (by omega)
 have S:=qQ hP;have U:=qQ ab;clear hP ab A;have am:IntKind.u64.wrap (f:Int)=(f:Int):=by rw[IntKind.wrap_u64];omega
 have an:IntKind.u64.wrap (l.length:Int)=(l.length:Int):=by rw[IntKind.wrap_u64];omega
 have ao:(f:Int)%18446744073709551616=(f:Int):=by omega
 have ap:(l.length:Int)%18446744073709551616=(l.length:Int):=by omega
 have z1:(bs (be 2 s.size)++s).size=s.size+2:=by rw[qT,jh,jO];omega
 have z2:(bs (be 8 f)).size=8:=by rw[jh,jO]
 have z3:(bs (be 1 l.length)).size=1:=by rw[jh,jO]
 have aa:fH s f l.length=bs (be 2 s.size)++s++bs (be 8 f)++bs (be 1 l.length):=rfl;have au:=KS s f l.length;have HE:=qQ (show yi s f l=fH s f l.length++kA l from rfl);generalize fH s f l.length=B at*;generalize bs (be 2 s.size)++s=T at*;generalize bs (be 8 f)=Q at*;generalize bs (be 1 l.length)=R at*;go_wp2_with fail;have j0:=vT I.o C k0;refine(V.out _).mono ?_;rintro e w2⟨rfl,ac⟩;have W1:=I.below ac;have a:=qQ (W1.write T (by simp;omega));clear ac I j0 W1;go_wp2_with fail;refine a.out.mono ?_;rintro e w3⟨rfl,y⟩;rw[ByteArray.empty_append]at y;have j1:=vT y.o C k1;clear a;go_wp2_with fail;refine(S.out _).mono ?_;rintro e w4⟨rfl,ad⟩;have a:=qQ ((y.below ad).write Q (by omega));clear ad y j1;go_wp2_with fail;refine a.out.mono ?_;rintro e w5⟨rfl,J⟩;have P:=vT J.o C k2;clear a;go_wp2_with fail;refine(U.out _).mono ?_;rintro e w6⟨rfl,ae⟩;have a:=qQ ((J.below ae).write R (by rw[qT];omega));clear ae J P;go_wp2_with fail;refine a.out.mono ?_;rintro e w7⟨rfl,z⟩;rw[<-aa]at z;have P:=vT z.o C k2;clear a aa z1 z2 z3 S U V am an ao ap k0 k1;have Y:=qQ fun k x h=>M6 l k x h
 have aj:=fun k (h:k<=l.length)=>KR (l:=l.take k) (fun x v=>(L x (List.mem_of_mem_take v)).c)
 have X:=qQ aj;clear aj;go_wp2;go_loopw [30] (fun i wr=>∃k:Nat,k<=l.length/\i = .int .i64 k/\Wrt j (B++kA (l.take k)) wr) (fun i _=>l.length-(intOf i).toNat)
 case atStart=>exact⟨0,qH _,rfl,by simpa[kA] using z⟩
 case round =>
  obtain⟨k,hk,rfl,m⟩:=hrel;clear z P;by_cases al:k<l.length
  ·obtain⟨x,D⟩:∃x,l[k]? = some x:=⟨l[k],qD al⟩
   obtain⟨a0,a1,a2⟩:=ag k x D;have F:=L x (qO D);have G:=qQ fun W=>L8 x.t x.d x.b W F.b F.c
   have q0:=vT m.o N a0;have q1:=vT m.o N a1;have q2:=vT m.o N a2;have hn:=Y.out k x D;have ai:=X.out k (by omega);rw[qq]at ai;have O:evB x.t x.d x.b=dN x:=rfl
   have ar:(B++kA (l.take k)).size+(dN x).size<=1000000:=by
    rw[qT];have h1:=Jb x.t x.d x.b;have h2:=mw.1 (show chk x.t x.d=0 from F.c);rw[O]at h1;omega
   have ah:B++kA (l.take k)++dN x=B++kA (l.take (k+1)):=(by rw[hn,KP,ByteArray.append_assoc]);have HN:=qQ ah;rw[O]at G;clear D a0 a1 a2 F ag L hn ai ah O X Y;generalize B++kA (l.take k)=Z at*;generalize dN x=E at*;obtain⟨t,d,n⟩:=x;simp only at q0 q1 q2 G;have s1:(k:Int)<(l.length:Int):=(by omega);have r:=m.alloc (.cells #[.string t,.string d,.float .f64 n] 64);go_wp2_with fail;refine(G.out _).mono ?_;rintro e w8⟨rfl,af⟩;have a:=qQ ((r.below af).write E ar);clear af r m q0 q1 q2;go_wp2_with fail;refine a.out.mono ?_;rintro e w9⟨rfl,r⟩;rw[HN.out]at r;clear a;go_wp2;go_roundw
   case rel=>exact⟨k+1,by omega,by go_num,r⟩
   case measure=>simp[intOf];omega
  ·obtain rfl:k=l.length:=(by omega);have s1:¬(l.length:Int)<(l.length:Int):=(by omega);rw[List.take_length,<-HE.out]at m;have a:=qQ m.told;clear m;go_wp2_with fail;refine a.out.mono ?_;rintro e w9⟨rfl,ak⟩;go_wp2;go_ret2;exact⟨rfl,u.trans (ak.mono u.size)⟩
theorem Pu(s:Tw)(f:Int)(v:Value)(l:List jD)(w:World)(h:lI w s f v l):
  Calls prog 87 #[vJ s f v] w fun e w'=>e = .returned (.tuple #[.string (td s f l),.int .i64 (jg s f l)])/\Below w.heap.size w w':=by
 unfold td;by_cases a:jg s f l=0
 ·rw[qK a,a];obtain⟨r,g,t,i,u,y,z⟩:=gU.1 a;obtain⟨A,c,n⟩:=h.v.form;subst n;obtain⟨p,q,rfl,m,d⟩:=h.v.pos (by omega);obtain⟨k,rfl⟩:∃k:Nat,f=k:=⟨f.toNat,by omega⟩
  rw[qh];refine Py s k p q c l w (by omega) g i (K9 a fun x o=>(h.x x o).b) m (fun W j=>?_) d;have:=pA s k _ l W (h.below j);rw[a]at this;exact this
 ·rw[qJ a];exact Pv s f v l w h a
end
end Go.Proofs.YthejglbnkmimjaaGreat

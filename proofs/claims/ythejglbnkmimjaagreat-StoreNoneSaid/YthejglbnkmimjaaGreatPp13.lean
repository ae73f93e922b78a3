import Derived.Deep.DeepCutAuto
import Derived.Deep.AppendLies
import Derived.Test.YthejglbnkmimjaaGreatPp12
import Derived.Deep.RegionHeldLaw
set_option linter.unusedVariables false
set_option maxRecDepth 100000
set_option maxHeartbeats 9000000
namespace Go.Proofs.YthejglbnkmimjaaGreat
open Tryz
section
open Go.RowKit
def yo(w:World)(g:Nat)(T:TypeId)(x y z:Value):Prop:=w.heap[g]? = some (.cells #[x,y,z] T (0,0))
theorem yo.new(w:World)(T:TypeId)(x y z:Value):yo (w.alloc (.cells #[x,y,z] T (0,0))) w.heap.size T x y z:=by
 show(w.heap.push _)[w.heap.size]? = _;simp
theorem yo.lt{w:World}{g:Nat}{T:TypeId}{x y z:Value}(h:yo w g T x y z):g<w.heap.size:=by
 obtain⟨a,_⟩:=qb.1 h;exact a
theorem yo.below{w w':World}{g:Nat}{T:TypeId}{x y z:Value}(h:yo w g T x y z)(a:Below w.heap.size w w'):yo w' g T x y z:=(a.block g h.lt).trans h
theorem yo.facts{w:World}{g:Nat}{T:TypeId}{x y z:Value}(h:yo w g T x y z):w.cell? ⟨g,0,none⟩=some x/\w.cell? ⟨g,1,none⟩=some y/\w.cell? ⟨g,2,none⟩=some z/\w.frozen? ⟨g,0,none⟩=false/\w.frozen? ⟨g,1,none⟩=false/\w.frozen? ⟨g,2,none⟩=false/\g<w.heap.size:=by
 refine⟨?_, ?_, ?_, ?_, ?_, ?_,h.lt⟩<;>unfold yo at h<;>simp[World.cell?,World.frozen?,h]
def gP(x:jD):List Value:=[.string x.t,.string x.d,.float .f64 x.b]
def ke(w:World)(v:Value)(l:List jD):Prop :=
 (l=[]/\∃a c,v = .slice a 0 c)∨(0<l.length/\∃b off f,v = .slice (some ⟨b,off,none⟩) l.length f/\l.length<=f/\b<w.heap.size /\
  ∀i x,l[i]? = some x->w.cell? ⟨b,off+i*3,none⟩=some (.string x.t)/\w.cell? ⟨b,off+i*3+1,none⟩=some (.string x.d)/\w.cell? ⟨b,off+i*3+2,none⟩=some (.float .f64 x.b))
theorem ke.below{w w':World}{v:Value}{l:List jD}{B:Nat}(h:ke w v l)(a:Below B w w')(d:w.heap.size<=B):ke w' v l:=by
 rcases h with h|⟨g,b,off,f,m,k,c,j⟩
 ·exact qX h
 ·exact qY ⟨g,b,off,f,m,k,qP c a.size,fun i x n=>by
   obtain⟨c0,c1,c2⟩:=j i x n;exact⟨(a.cell (qP c d)).trans c0,(a.cell (qP c d)).trans c1,(a.cell (qP c d)).trans c2⟩⟩
theorem pW: ∀(l:List jD) (i:Nat) (x:jD),l[i]? = some x->∀j,j<3->(l.flatMap gP)[i*3+j]? = (gP x)[j]?
 | [],i,x,h=>by simp at h
 | y::l,0,x,h=>by
   intro j a;obtain rfl:y=x:=(by simpa using h);rw[List.flatMap_cons,Nat.zero_mul,Nat.zero_add,List.getElem?_append_left (by exact a)]
 | y::l,i+1,x,h=>by
   intro j a;have b:l[i]? = some x:=(by simpa using h);have e:(i+1)*3+j=3+(i*3+j):=(by omega);rw[List.flatMap_cons,e,List.getElem?_append_right (by show 3<=_;omega)];show(l.flatMap gP)[3+(i*3+j)-3]? = _;rw[Nat.add_sub_cancel_left];exact pW l i x b j a
theorem ke.xD{w:World}{base:Nat}{v:Value}{l:List jD}(h:w.ownsRow base 64 3 v l.length (l.flatMap gP)):ke w v l:=by
 have b:=h;rcases h.2 with⟨a,j⟩|⟨g,f,n,a,o,k,m,q,r,s⟩
 ·exact qX ⟨List.length_eq_zero_iff.1 j,none,0,a⟩
 ·by_cases d:l=[]
  ·subst d;exact qX ⟨rfl,_,_,a⟩
  ·refine qY ⟨List.length_pos_iff.2 d,g,0,f,a,m,(qb.1 k).1,fun i x c=>?_⟩;have p:i<l.length:=(qM.1 c).1;rw[a]at b;have c0:=(b.cellAt (i*3+0) (by omega)).trans (pW l i x c 0 (by omega));have c1:=(b.cellAt (i*3+1) (by omega)).trans (pW l i x c 1 (by omega));have c2:=(b.cellAt (i*3+2) (by omega)).trans (pW l i x c 2 (by omega));rw[Nat.zero_add];exact⟨c0,c1,c2⟩
theorem tm{w w':World}{base B n size:Nat}{e:TypeId}{v:Value}{xs:List Value}(h:w.ownsRow base e size v n xs)(i:Below B w w')(f:w.heap.size<=B):w'.ownsRow base e size v n xs:=by
 refine⟨h.1, ?_⟩;rcases h.2 with d|⟨g,b,c,l,j,a,r⟩
 ·exact qX d
 ·obtain⟨k,_⟩:=qb.1 a;exact qY ⟨g,b,c,l,j,(i.block g (qP k f)).trans a,r⟩
theorem M5: (prog.info? 64).map (fun i=>(i.zero,i.size,i.bytes))=some (some (.agg #[.string ByteArray.empty,.string ByteArray.empty,.float .f64 0]),3,40):=by kernel_rfl
theorem M6(l:List jD)(k:Nat)(x:jD)(h:l[k]? = some x):l.take (k+1)=l.take k++[x]:=by
 rw[List.take_add_one,h];rfl
theorem ke.form{w:World}{v:Value}{l:List jD}(h:ke w v l):∃A c,v = .slice A l.length c:=by
 rcases h with⟨rfl,a,c,rfl⟩|⟨_,b,off,d,rfl,_⟩
 ·exact⟨_,_,rfl⟩
 ·exact⟨_,_,rfl⟩
theorem ke.pos{w:World}{A:Option Addr}{n c:Nat}{l:List jD}(h:ke w (.slice A n c) l)(g:0<l.length):∃b off,A=some ⟨b,off,none⟩/\b<w.heap.size /\
  ∀i x,l[i]? = some x->w.cell? ⟨b,off+i*3,none⟩=some (.string x.t)/\w.cell? ⟨b,off+i*3+1,none⟩=some (.string x.d)/\w.cell? ⟨b,off+i*3+2,none⟩=some (.float .f64 x.b):=by
 rcases h with⟨rfl,_⟩|⟨_,b,off,k,j,_,a,f⟩
 ·cases g
 ·cases j;exact⟨b,off,rfl,a,f⟩
end
section
open Go.RowKit
attribute [local go_sem] bA
structure bt(x:jD):Prop where
 t:x.t.size<=100000
 d:x.d.size<=100000
 b:x.b<18446744073709551616
structure lI(w:World)(s:Tw)(f:Int)(v:Value)(l:List jD):Prop where
 s:s.size<=100000
 f:(Lit.int .i64 f).wf=true
 v:ke w v l
 n:l.length<=300
 x:∀x∈l,bt x
theorem lI.below{w w':World}{s:Tw}{f:Int}{v:Value}{l:List jD}(h:lI w s f v l)(a:Below w.heap.size w w'):lI w' s f v l:=⟨h.s,h.f,h.v.below a (qZ _),h.n,h.x⟩
end
section
open Go.RowKit
attribute [local go_sem] bA
theorem M7(p B c:Nat)(l:List jD)(w:World)(aa:l.length<=300)(T:∀x∈l,bt x)(H:p<w.heap.size)
  (Q:∀i x,l[i]? = some x->w.cell? ⟨p,B+i*3,none⟩=some (.string x.t)/\w.cell? ⟨p,B+i*3+1,none⟩=some (.string x.d)/\w.cell? ⟨p,B+i*3+2,none⟩=some (.float .f64 x.b)):
  Calls prog 85 #[.slice (some ⟨p,B,none⟩) l.length c] w fun e w'=>e = .returned (.int .i64 (yA l))/\Below w.heap.size w w':=by
 have X:=qQ (fun(k:Nat) (x:jD) D F Y=>MI (l:=l) (k:=k) (x:=x) D F Y);have V:=qQ (fun(k:Nat) D F=>ML (l:=l) (k:=k) D F);generalize yA l=r at*;go_enter func85,ntmps85;go_wp2;go_step3;go_wp2;go_step3;go_wp2;go_loopw [2,7] (fun e i wr=>∃k:Nat,k<=l.length/\i = .int .i64 k/\e = .int .i64 0/\(∀(i:Nat) (x:jD),i<k->l[i]? = some x->uC x=0)/\Below w.heap.size w wr) (fun _ i _=>l.length-(intOf i).toNat)
 case atStart=>exact⟨0,qH _,rfl,rfl,fun i x h=>absurd h (by omega),Below.refl _ _⟩
 case round =>
  obtain⟨k,hk,rfl,rfl,R,a⟩:=hrel;have C:=qQ R;clear R;by_cases Z:k<l.length
  ·obtain⟨x,u⟩:∃x,l[k]? = some x:=⟨l[k],qD Z⟩
   obtain⟨N,O,P⟩:=Q k x u;have K:=T x (qO u);have j:=qQ fun W=>pZ x.t x.d x.b W (by have:=K.t;unfold maxLen;omega) (by have:=K.d;unfold maxLen;omega)
   have m:=qQ u;have f:=qQ (show uC x=chk x.t x.d from rfl);have v:=vT a H N;have z:=vT a H O;have A:=vT a H P;clear u N O P K Q T;have S:=tE x.t x.d;generalize chk x.t x.d=o at*;have s1:(k:Int)<(l.length:Int):=(by omega);by_cases q:o=0
   ·subst q;have M:=f.out
    have L:∀(i:Nat) (y:jD),i<k+1->l[i]? = some y->uC y=0:=fun i y hi I=>by
     by_cases e:i=k
     ·subst e;rw[m.out]at I;cases I;exact M
     ·exact C.out i y (by omega) I
    have U:=qQ L;clear L M;obtain⟨t,d,n⟩:=x;simp only at v z A j;clear f m S;go_wp2_with fail;refine(j.out _).mono ?_;rintro e J⟨rfl,g⟩;have G:Below w.heap.size w J:=bj (a.alloc a.size _) g;clear a g v z A;go_wp2;go_roundw
    case rel=>exact⟨k+1,by omega,by go_num,rfl,U.out,G⟩
    case measure=>simp[intOf];omega
   ·have s:=X.out k x C.out m.out (by rw[f.out];exact q);rw[f.out]at s;have e1:((o:Int) != 0)=true:=(by simp;exact q);subst s;clear S q;obtain⟨t,d,n⟩:=x;simp only at v z A j;clear f m;go_wp2_with fail;refine(j.out _).mono ?_;rintro e J⟨rfl,g⟩;have G:Below w.heap.size w J:=bj (a.alloc a.size _) g;clear a g v z A;go_wp2
    (try rw[Exit.noGoto_ret])
    go_ret;exact⟨rfl,G⟩
  ·obtain rfl:k=l.length:=(by omega);have s1:¬(l.length:Int)<(l.length:Int):=(by omega);have s:=V.out _ C.out (qZ _);subst s;go_wp2
   (try rw[Exit.noGoto_ret])
   go_ret;exact⟨rfl,a⟩
theorem tr(s:Tw)(f:Int)(A:Option Addr)(n c:Nat)(r:Int)(w:World)(v:s.size<=100000)(i:(Lit.int .i64 f).wf=true)(u:n<=300)
  (h:((s.size=0∨n=0)/\r=2)∨(¬(s.size=0∨n=0)/\(32<s.size∨8<n)/\r=3)∨(¬(s.size=0∨n=0)/\¬(32<s.size∨8<n)/\(f<0∨1073741824-(n:Int)<f)/\r=2)):
  Calls prog 40 #[vJ s f (.slice A n c)] w fun e w'=>e = .returned (.int .i64 r)/\Below w.heap.size w w':=by
 have t:=bounds_i64 i;unfold vJ;by_cases b:s.size=0
 ·have a:r=2:=by omega
  subst a;have j:((s.size:Int)==0)=true:=beq_iff_eq.2 (by omega);clear h;go_enter func40,ntmps40;go_wp2;go_ret;exact⟨rfl,(Below.refl _ _).alloc (qZ _) _⟩
 ·have j:((s.size:Int)==0)=false:=qy.2 (by omega);by_cases d:n=0
  ·have a:r=2:=(by omega);subst a;have k:((n:Int)==0)=true:=beq_iff_eq.2 (by omega);clear h b d;go_enter func40,ntmps40;go_wp2;go_ret;exact⟨rfl,(Below.refl _ _).alloc (qZ _) _⟩
  ·have k:((n:Int)==0)=false:=qy.2 (by omega);by_cases p:32<s.size
   ·have a:r=3:=(by omega);subst a;have l:decide ((32:Int)<(s.size:Int))=true:=qW (by omega);clear h b d;go_enter func40,ntmps40;go_wp2;go_ret;exact⟨rfl,(Below.refl _ _).alloc (qZ _) _⟩
   ·have l:decide ((32:Int)<(s.size:Int))=false:=qG (by omega);by_cases q:8<n
    ·have a:r=3:=(by omega);subst a;have m:decide ((8:Int)<(n:Int))=true:=qW (by omega);clear h b d;go_enter func40,ntmps40;go_wp2;go_ret;exact⟨rfl,(Below.refl _ _).alloc (qZ _) _⟩
    ·have m:decide ((8:Int)<(n:Int))=false:=qG (by omega);have a:r=2:=(by omega);subst a;by_cases g:f<0
     ·have o:decide (f<0)=true:=qW g;clear h b d;go_enter func40,ntmps40;go_wp2;go_ret;exact⟨rfl,(Below.refl _ _).alloc (qZ _) _⟩
     ·have o:decide (f<0)=false:=qG g;have y:decide ((1073741824:Int)-(n:Int)<f)=true:=qW (by omega);clear h b d;go_enter func40,ntmps40;go_wp2;go_ret;exact⟨rfl,(Below.refl _ _).alloc (qZ _) _⟩
theorem M8(s:Tw)(f:Int)(p a c:Nat)(l:List jD)(w:World)(z:1<=s.size)(A:s.size<=32)(v:1<=l.length)(y:l.length<=8)(q:0<=f)(u:f<=1073741824-(l.length:Int))(g:∀x∈l,bt x)(m:p<w.heap.size)
  (j:∀i x,l[i]? = some x->w.cell? ⟨p,a+i*3,none⟩=some (.string x.t)/\w.cell? ⟨p,a+i*3+1,none⟩=some (.string x.d)/\w.cell? ⟨p,a+i*3+2,none⟩=some (.float .f64 x.b)):
  Calls prog 40 #[vJ s f (.slice (some ⟨p,a,none⟩) l.length c)] w fun e w'=>e = .returned (.int .i64 (yA l))/\Below w.heap.size w w':=by
 unfold vJ;have B:((s.size:Int)==0)=false:=qy.2 (by omega);have C:((l.length:Int)==0)=false:=qy.2 (by omega);have D:decide ((32:Int)<(s.size:Int))=false:=qG (by omega);have F:decide ((8:Int)<(l.length:Int))=false:=qG (by omega);have G:decide (f<0)=false:=qG (by omega);have H:decide ((1073741824:Int)-(l.length:Int)<f)=false:=qG (by omega);have k:Below w.heap.size w (w.alloc (.cells #[.string s,.int .i64 f,.slice (some ⟨p,a,none⟩) l.length c] 92)):=(Below.refl _ _).alloc (qZ _) _
 have n:=qQ (M7 p a c l (w.alloc (.cells #[.string s,.int .i64 f,.slice (some ⟨p,a,none⟩) l.length c] 92)) (by omega) g (by simp;omega)
  (fun i x g=>⟨vT k m (j i x g).1,vT k m (j i x g).2.1,vT k m (j i x g).2.2⟩))
 generalize yA l=r at*;clear j g;go_enter func40,ntmps40;go_wp2_with fail;refine n.out.mono ?_;rintro e I⟨rfl,o⟩;go_wp2;go_ret;exact⟨rfl,k.trans (o.mono (by simp))⟩
theorem pA(s:Tw)(f:Int)(v:Value)(l:List jD)(w:World)(h:lI w s f v l):
  Calls prog 40 #[vJ s f v] w fun e w'=>e = .returned (.int .i64 (jg s f l))/\Below w.heap.size w w':=by
 obtain⟨A,c,rfl⟩:=h.v.form;by_cases a:s.size=0∨l.length=0
 ·rw[tj a];exact tr s f A l.length c 2 w h.s h.f h.n (qX ⟨a,rfl⟩)
 ·by_cases b:32<s.size∨8<l.length
  ·rw[tk a b];exact tr s f A l.length c 3 w h.s h.f h.n (qY (qX ⟨a,b,rfl⟩))
  ·by_cases d:f<0∨1073741824-(l.length:Int)<f
   ·rw[tb a b d];exact tr s f A l.length c 2 w h.s h.f h.n (qY (qY ⟨a,b,d,rfl⟩))
   ·rw[tc a b d];obtain⟨p,j,rfl,i,g⟩:=h.v.pos (by omega);exact M8 s f p j c l w (by omega) (by omega) (by omega) (by omega) (by omega) (by omega) h.x i g
end
section
open Go.RowKit
attribute [local go_sem] bA
def M9(w:World)(e:Ending)(w':World):Prop:=e = .returned (.tuple #[vJ ByteArray.empty 0 (.slice none 0 0),.int .i64 10])/\Below w.heap.size w w'
def Mq(s:Tw)(w:World)(e:Ending)(w':World):Prop:=∃u,e = .returned (.tuple #[vJ (bgS s) (bgF s) u,.int .i64 (bgE s)])/\ke w' u (bgL s)/\Below w.heap.size w w'
theorem Mx{s:Tw}(h:kh s=false):rdB s=ByteArray.empty:=by simp[rdB,h]
theorem yo.set{w:World}{g:Nat}{T:TypeId}{x y z:Value}(h:yo w g T x y z)(x' a b:Value):yo (((w.setCell ⟨g,0,none⟩ x').setCell ⟨g,1,none⟩ a).setCell ⟨g,2,none⟩ b) g T x' a b:=by
 unfold yo at h ⊢;simp[World.setCell,Array.getElem?_modify,h]
theorem fI{w w2:World}(h:Below w.heap.size w w2)(x y z:Value):
  Below w.heap.size w (((w2.setCell ⟨w.heap.size,0,none⟩ x).setCell ⟨w.heap.size,1,none⟩ y).setCell ⟨w.heap.size,2,none⟩ z):=((h.setCell (qZ _) _).setCell (qZ _) _).setCell (qZ _) _
theorem cj(W:World)(b i:Nat)(v:Value):W.grownBy (W.setCell ⟨b,i,none⟩ v) (some b):=⟨rfl,rfl,rfl,by simp[World.setCell],fun k _ a=>Below.heap_setCell _ _ _ _ (fun e=>a (by rw[e]))⟩
theorem tt{w:World}{base n size:Nat}{e:TypeId}{v:Value}{xs:List Value}(h:w.ownsRow base e size v n xs):∃A c,v = .slice A n c:=by
 rcases h.2 with⟨a,d⟩|⟨g,b,f,a,_⟩
 ·exact⟨none,0,by rw[a,d]⟩
 ·exact⟨_,b,a⟩
theorem Mz{R:Tw}(h:8<R.size){s:Tw}(e:rdB s=R):bgM s=(R[8]'h).toNat:=by
 subst e;unfold bgM;rw[dif_pos h]
theorem Mj{x:jD}(h:lH x):bt x:=by
 have:=mw.1 h.c;exact⟨by omega,by omega,h.b⟩
end
section
open Go.RowKit
attribute [local go_sem] bA
def ta(M:Nat)(s:Tw)(w:World)(e:Ending)(w':World):Prop :=
 ∃v q,e = .returned (.tuple #[v,.bool q])/\Below w.heap.size w w'/\((q=false/\(∃A n c,v = .slice A n c)/\∀l,vp M s≠some (l,ByteArray.empty))∨(q=true/\∃l,vp M s=some (l,ByteArray.empty)/\w'.ownsRow w.heap.size 64 3 v l.length (l.flatMap gP)))
theorem Mk(s:Tw)(M:Nat)(w:World)(hs:s.size<=100000)(hM:M<256):
  Calls prog 213 #[.string s,.int .i64 (M:Nat)] w (ta M s w):=by
 obtain⟨i0,hi,af,ag,ah⟩:=info_parts M5;obtain⟨m,C⟩:∃m,vp M s=m:=⟨_,rfl⟩
 have J:=qQ (fun(e:Ending) (L:World) (h:∃v q,e = .returned (.tuple #[v,.bool q])/\Below w.heap.size w L/\((q=false/\(∃A n c,v = .slice A n c)/\∀l,m≠some (l,ByteArray.empty))∨(q=true/\∃l,m=some (l,ByteArray.empty)/\L.ownsRow w.heap.size 64 3 v l.length (l.flatMap gP))))=>(show ta M s w e L by unfold ta;rw[C];exact h));have N:=qQ (show m=(vp (M-0) s).map (fun p=>(([]:List jD)++p.1,p.2)) by rw[<-C];simp);clear C;go_enter func213,ntmps213;go_wp2;go_loopw [0,4,10] (fun r v i wr=>∃(k:Nat) (a:Tw) (g:List jD),k<=M/\r = .string a/\i = .int .i64 k/\g.length=k/\a.size<=100000/\m=(vp (M-k) a).map (fun p=>(g++p.1,p.2))/\wr.ownsRow w.heap.size 64 3 v g.length (g.flatMap gP)/\Below w.heap.size w wr) (fun _ _ i _=>M-(intOf i).toNat)
 case atStart=>exact⟨0,s,[],qH _,rfl,rfl,rfl,hs,N.out,World.ownsRow_nil _ _ _ _,Below.refl _ _⟩
 case round =>
  obtain⟨k,a,g,hk,rfl,rfl,H,ai,C,D,B⟩:=hrel;rw[H]at D;have F:=qQ C;clear C N;obtain⟨A',c',rfl⟩:=tt D;by_cases aj:k<M
  ·have s1:(k:Int)<(M:Int):=(by omega);have G:=qQ fun W=>Lz a W (by unfold maxLen;omega)
   cases y:vu a with
   | false =>
     have S:m=none:=by
      rw[F.out,show M-k=(M-k-1)+1 by omega,MP y];rfl
     have HN:=qQ S;clear S;obtain⟨U,V,X,Y⟩:=tF y;rw[U,V,X,Y,y]at G;clear U V X Y y;go_wp2_with fail;refine(G.out _).mono ?_;rintro e Z⟨rfl,z⟩;have o:=bj B z;clear z D B;go_wp2;go_ret2;exact J.out _ _ ⟨_,_,rfl,o.alloc o.size _,qX ⟨rfl,⟨_,_,_,rfl⟩,fun l e=>by rw[HN.out]at e;cases e⟩⟩
   | true =>
     have ae:(erR a).size<=100000:=by
      rw[(pX y).2.2.2,qS];have:=uS (rdB a);have:=uS a;unfold erL;omega
     have P:m=(vp (M-(k+1)) (erR a)).map (fun p=>(g++[⟨erT a,erD a,erW a⟩]++p.1,p.2)):=by
      rw[F.out,show M-k=(M-(k+1))+1 by omega,MO y,Option.map_map];congr 1;funext p;simp
     have aa:=qQ P;rw[y]at G;clear P F y;generalize erT a=t at*;generalize erD a=d at*;generalize erW a=b at*;generalize erR a=R2 at*;go_wp2_with fail;refine(G.out _).mono ?_;rintro e Z⟨rfl,z⟩;have o:=bj B z;have K:=tm D z (qZ _);clear z D B
     go_wp2_with (first
      | (at_builtin;refine wpList_append_own _ rfl _ _ 40 rfl w.heap.size 64 i0 (.agg #[.string ByteArray.empty,.string ByteArray.empty,.float .f64 0]) 3 40 Tryz.underlying40 hi af ag ah rfl (by decide) _ _ _ rfl ((K.alloc _).alloc _) ⟨Z.heap.size+1,0,none⟩ 1 1 [.string t,.string d,.float .f64 b] rfl rfl ?c1 ?c2 ?c3 ?c4 ?c5 ?_))
     case c1 =>
      intro j u f
      match j,f with
      | 0,f=>simp at f;subst f;simp[Addr.add]
      | 1,f=>simp at f;subst f;simp[Addr.add]
      | 2,f=>simp at f;subst f;simp[Addr.add]
     case c2 =>
      intro u T;simp at T;rcases T with rfl|rfl|rfl<;>rfl
     case c3=>unfold maxLen;omega
     case c4=>omega
     case c5=>have:=o.size;simp;omega
     ·intro v' w4 ad R _;have ac:=((o.alloc o.size (.cells #[.string t,.string d,.float .f64 b] 64)).alloc (by have:=o.size;simp;omega) (.cells #[.string t,.string d,.float .f64 b] 64)).grown R (by have:=o.size;simp;omega) (fun q e=>(K.lt q e).1);clear R K o;go_wp2;go_roundw
      case rel =>
       refine⟨k+1,R2,g++[⟨t,d,b⟩],by omega,rfl,by go_num,by rw[qI,H];rfl,ae,aa.out, ?_,ac⟩;rw[List.flatMap_append,qI,H];exact ad
      case measure=>simp[intOf];omega
  ·obtain rfl:k=M:=(by omega);have s1:¬(k:Int)<(k:Int):=(by omega);have Q:m=some (g,a):=(by rw[F.out,Nat.sub_self];simp[vp]);have O:=qQ Q;clear F Q;by_cases I:a.size=0
   ·have ab:a=ByteArray.empty:=ByteArray.ext (Array.eq_empty_of_size_eq_zero I);subst ab;go_wp2;go_ret2;exact J.out _ _ ⟨_,_,rfl,B,qY ⟨rfl,g,O.out,by rw[H];exact D⟩⟩
   ·have t1:a.toList.isEmpty=false:=by
     rw[List.isEmpty_eq_false_iff,Lib.toList_data];intro e;exact I (by rw[Lib.size_eq,e];rfl)
    have HR:=qQ I;clear I;go_wp2;go_ret2;exact J.out _ _ ⟨_,_,rfl,B,qX ⟨rfl,⟨_,_,_,rfl⟩,fun l e=>by rw[O.out]at e;cases e;exact HR.out rfl⟩⟩
theorem Mv(R:Tw)(h:8<R.size){s:Tw}(e:rdB s=R):jJ (R.extract 8 9)=bgM s:=by
 rw[Mz h e]
 have a:(R.extract 8 9).data.toList=[R[8]]:=by
  have b:R.data.toList.length=R.size:=cP _;rw[ByteArray.data_extract,Array.toList_extract,List.extract,List.drop_eq_getElem_cons (by omega)];simp;rfl
 unfold jJ;rw[a];simp[un]
theorem My(R:Tw):jJ (R.extract 0 8)=jJ R:=by
 unfold jJ;have e:(R.extract 0 8).data.toList=R.data.toList.take 8:=by simp
 rw[e,List.take_take,Nat.min_self]
theorem cv{w:World}{base B n size:Nat}{e:TypeId}{v:Value}{xs:List Value}(h:w.ownsRow base e size v n xs)(d:B<=base):w.ownsRow B e size v n xs:=by
 refine⟨h.1, ?_⟩;rcases h.2 with c|⟨g,a,b,i,f,r⟩
 ·exact qX c
 ·exact qY ⟨g,a,b,i,qR d f,r⟩
def bgN(s:Tw):Nat:=jJ (rdB s)
def Kx(s:Tw)(w:World)(e:Ending)(w':World):Prop :=
 ∃S F v q,e = .returned (.tuple #[vJ S F v,.bool q])/\(∃A n c,v = .slice A n c)/\Below w.heap.size w w'/\(q=false->kK s=false)/\(q=true->gG s=true/\S=rdA s/\F=(jJ (rdB s):Nat)/\∃l,bC s=some (l,ByteArray.empty)/\w'.ownsRow w.heap.size 64 3 v l.length (l.flatMap gP))
theorem Kz{s:Tw}{w w':World}{e:Ending}(h:kK s=false)(b:e = .returned (.tuple #[vJ ByteArray.empty 0 (.slice none 0 0),.bool false]))(a:Below w.heap.size w w'):Kx s w e w' :=
 ⟨_,_,_,_,b,⟨_,_,_,rfl⟩,a,fun _=>h,fun h=>by cases h⟩
theorem Mu(s:Tw)(w:World)(hs:s.size<=100000):
  Calls prog 158 #[.string s] w (Kx s w):=by
 have z:=qQ fun W=>fB s W (by unfold maxLen;omega)
 have af:=uS s;have D:Below w.heap.size w (w.alloc (.cells #[.string ByteArray.empty,.int .i64 0,.slice none 0 0] 92)):=(Below.refl _ _).alloc (qZ _) _;have p:=yo.new w 92 (.string ByteArray.empty) (.int .i64 0) (.slice none 0 0);have N:∀(t:Tw) (W:World),t.size<=100->Calls prog 131 #[.string t] W fun e w'=>e = .returned (.int .u64 (jJ t:Nat))/\w'=W:=fun t W h=>(gQ t W (by unfold maxLen;omega)).mono fun e w' h=>⟨h.1,h.2.symm⟩
 by_cases h9:(rdB s).size<9
 ·have H:=qQ (fun e w'=>Kz (s:=s) (w:=w) (w':=w') (e:=e) (K8 (by unfold gG;rw[qG (by omega)];simp)));have x1:decide (((rdB s).size:Int)<9)=true:=qW (by omega);generalize rdB s=R at*;generalize rdA s=A at*;generalize kh s=q at*;clear N hs;go_enter func158,ntmps158;go_wp2_with fail;refine(z.out _).mono ?_;rintro e o⟨rfl,d⟩;have g:=p.below d;have F:Below w.heap.size w o:=D.trans (d.mono (by simp));obtain⟨i,j,k,V,X,Y,_⟩:=g.facts;clear p g d D;go_wp2;exact bodyPost_ret (v:=.tuple #[.agg #[.string ByteArray.empty,.int .i64 0,.slice none 0 0],.bool false]) (by simp[results,Tryz.results158,go_sem,i,j,k];rfl) rfl (H.out _ _ rfl (fI F _ _ _))
 ·have x1:decide (((rdB s).size:Int)<9)=false:=qG (by omega);have x3:(8:Int)<((rdB s).size:Int):=by omega
  have x4:(9:Int)<=((rdB s).size:Int):=by omega
  have J:=My (rdB s);have K:=Mv (rdB s) (by omega) (s:=s) rfl;have hg:=mX (rdB s);have aa:=K6 s;have ag:((rdB s).extract 0 8).size<=100:=by rw[qS];omega
  have ah:((rdB s).extract 8 9).size<=100:=by rw[qS];omega
  have ac:((rdB s).extract 9 (rdB s).size).size<=100000:=by rw[qS];omega
  have u:=qQ (show bC s=vp (bgM s) ((rdB s).extract 9 (rdB s).size) from rfl);have I:=qQ fun W=>Mk ((rdB s).extract 9 (rdB s).size) (bgM s) W ac aa
  have T:=qQ N
  have ab:kh s=true:=by
   cases h:kh s with
   | true=>rfl
   | false=>rw[Mx h]at x4;exact absurd x4 (by decide)
  have y:=qQ (show jJ (rdB s)<=1073741824->gG s=true from fun h=>by unfold gG;rw[ab,qW (by omega:9<=(rdB s).size),qW h];rfl);have C:=qQ (show 1073741824<jJ (rdB s)->gG s=false from fun h=>by unfold gG;rw[qG (by omega:¬jJ (rdB s)<=1073741824)];simp);have HA:=qQ (qU (rfl:rdA s=rdA s) (rfl:jJ (rdB s)=jJ (rdB s)));clear N hs h9 af ac ab;obtain⟨A,L⟩:∃A,rdA s=A:=⟨_,rfl⟩
  obtain⟨n,f⟩:∃n,jJ (rdB s)=n:=⟨_,rfl⟩
  obtain⟨M,hM⟩:∃M,bgM s=M:=⟨_,rfl⟩
  rw[hM]at u I aa K;rw[f]at y C hg J;rw[L]at z;have G:=qQ (qU L (show bgN s=n from f));clear L f hM HA;generalize rdB s=R at*;generalize kh s=q at*;go_enter func158,ntmps158;go_wp2_with fail;refine(z.out _).mono ?_;rintro e o⟨rfl,d⟩;have g:=p.below d;have F:Below w.heap.size w o:=D.trans (d.mono (by simp));clear p d D;go_wp2_with fail;go_quiet ((go_at_call 131;exact Calls.quiet_of_same ((T.out _ _ (by rw[qS];omega)))));rename_i nq _;rw[J,K];have r:yo (o.drewN nq) w.heap.size 92 (.string ByteArray.empty) (.int .i64 0) (.slice none 0 0):=g;have P:=yg F nq;generalize o.drewN nq=w2 at*;clear g F T z ag ah J K x1;by_cases f:1073741824<n
  ·have H:=qQ (fun e w'=>Kz (s:=s) (w:=w) (w':=w') (e:=e) (K8 (C.out f)));have x2:decide ((1073741824:Int)<(n:Int))=true:=qW (by omega);obtain⟨i,j,k,V,X,Y,_⟩:=r.facts;clear f C y G u;go_wp2;exact bodyPost_ret (v:=.tuple #[.agg #[.string ByteArray.empty,.int .i64 0,.slice none 0 0],.bool false]) (by simp[results,Tryz.results158,go_sem,i,j,k];rfl) rfl (H.out _ _ rfl (fI P _ _ _))
  ·have x2:decide ((1073741824:Int)<(n:Int))=false:=qG (by omega);have hH:=y.out (by omega);have hm:IntKind.i64.wrap (M:Int)=(M:Int):=(by rw[IntKind.wrap_i64];omega);have am:IntKind.i64.wrap (n:Int)=(n:Int):=(by rw[IntKind.wrap_i64];omega);have ad:=qQ hH;have al:=r.lt;clear f C y hH;generalize ak:R.extract 9 R.size=aj at*;go_wp2_with fail;refine(I.out _).mono ?_;rintro e w3⟨v,q',rfl,O,S⟩;have E3:=r.below O;have ae:=bj P O
   have ai:∃A n c,v = .slice A n c:=by
    rcases S with⟨_,h,_⟩|⟨_,l,_,h⟩
    ·exact h
    ·obtain⟨a,c,h⟩:=tt h;exact⟨_,_,_,h⟩
   obtain⟨i,j,k,V,X,Y,_⟩:=E3.facts;clear r O P I;obtain⟨B,m,c,rfl⟩:=ai;have U:=qQ S;clear S;go_wp2;refine bodyPost_ret (v:=.tuple #[.agg #[.string A,.int .i64 (n:Nat),.slice B m c],.bool q']) (by simp[results,Tryz.results158,go_sem,i,j,k]) rfl ⟨A,(n:Nat),.slice B m c,q',rfl,⟨_,_,_,rfl⟩,fI ae _ _ _, ?_, ?_⟩
   ·intro h;rcases U.out with⟨_,_,b⟩|⟨b,_⟩
    ·cases hb:kK s with
     | false=>rfl
     | true=>exact absurd (u.out.symm.trans (br hb).2.2.2.2.1) (b _)
    ·rw[h]at b;cases b
   ·intro h;rcases U.out with⟨b,_⟩|⟨_,l,b,Z⟩
    ·rw[h]at b;cases b
    ·have Q:(Value.slice B m c).ownBlock≠some w.heap.size:=fun e=>by have:=(Z.lt _ e).1;omega
     refine⟨ad.out,G.out.1.symm,by rw[<-G.out.2];rfl,l,u.out.trans b, ?_⟩;exact((cv Z (by omega)).kept (cj _ w.heap.size 0 _) (.inr Q)).kept (cj _ w.heap.size 1 _) (.inr Q) |>.kept (cj _ w.heap.size 2 _) (.inr Q)
def ti(s:Tw)(w:World)(e:Ending)(w':World):Prop:=∃u,e = .returned (.tuple #[vJ (bgS s) (bgF s) u,.int .i64 (bgE s)])/\w'.ownsRow w.heap.size 64 3 u (bgL s).length ((bgL s).flatMap gP)/\Below w.heap.size w w'
theorem Kj{s:Tw}{w w':World}{e:Ending}(h:kK s=false)(a:M9 w e w'):ti s w e w':=by
 obtain⟨b,c,d,f⟩:=MR h;unfold ti;rw[b,c,d,f];exact⟨_,a.1,World.ownsRow_nil _ _ _ _,a.2⟩
theorem Kk(s:Tw)(w:World)(hs:s.size<=100000):Calls prog 95 #[.string s] w (ti s w):=by
 have aa:Below w.heap.size w (w.alloc (.cells #[.string ByteArray.empty,.int .i64 0,.slice none 0 0] 92)):=(Below.refl _ _).alloc (qZ _) _;have E0:=yo.new w 92 (.string ByteArray.empty) (.int .i64 0) (.slice none 0 0);have HR:=qQ (Mu s (w.alloc (.cells #[.string ByteArray.empty,.int .i64 0,.slice none 0 0] 92)) hs);have HA:=qQ (qR (nQ s) hs);go_enter func95,ntmps95;go_wp2_with fail;refine HR.out.mono ?_;rintro e w1⟨S,F,v,q,rfl,⟨B,m,c,rfl⟩,U,X,Z⟩;have y:=E0.below U;have V:Below w.heap.size w w1:=aa.trans (U.mono (by simp));clear E0 U aa HR;obtain⟨p,t,u,D,G,H,_⟩:=y.facts;have a:=y.set (.string S) (.int .i64 F) (.slice B m c);have k:=fI V (.string S) (.int .i64 F) (.slice B m c);unfold vJ;cases q with
 | false =>
   have L:=qQ fun P e=>Kj (w:=w) (w':=P) (e:=e) (X rfl)
   obtain⟨j0,j1,j2,Q,R,T,_⟩:=a.facts;obtain⟨c0,c1,c2,_⟩:=(a.set (.string ⟨#[]⟩) (.int .i64 0) (.slice none 0 0)).facts;clear X Z y a V;go_wp2;exact bodyPost_ret (v:=.tuple #[.agg #[.string ByteArray.empty,.int .i64 0,.slice none 0 0],.int .i64 10]) (by simp[results,Tryz.results95,go_sem,c0,c1,c2];rfl) rfl (L.out _ _ ⟨rfl,fI k _ _ _⟩)
 | true =>
   obtain⟨j,rfl,rfl,l,o,I⟩:=Z rfl;obtain⟨_,_,e1⟩:=tt I;cases e1;have ab:∀g,w.heap.size+1<=g->(Value.slice B l.length c).ownBlock≠some w.heap.size:=fun g hg e=>by have:=(I.lt _ e).1;simp at this;omega
   have f:=ab (w.heap.size+1) (qZ _);clear ab;have Y:=((I.kept (cj _ w.heap.size 0 (.string (rdA s))) (.inr f)).kept (cj _ w.heap.size 1 (.int .i64 (jJ (rdB s):Nat))) (.inr f)).kept (cj _ w.heap.size 2 (.slice B l.length c)) (.inr f);obtain⟨_,af,ad⟩:=KT o;have ae:=K6 s
   have hF:jJ (rdB s)<=1073741824:=by
    unfold gG at j;simp only[Bool.and_eq_true,decide_eq_true_eq]at j;exact j.2
   have i:=qQ (pA (rdA s) (jJ (rdB s):Nat) (.slice B l.length c) l _ ⟨HA.out,WalkArith.wf_i64 (by omega),ke.xD Y,by omega,fun x hx=>Mj (ad x hx)⟩);have N:=qQ fun h=>br (K7 j o h)
   have O:=qQ fun h=>MS o (qY h)
   have M:=qQ Y;have K:=qQ o;clear X Z I Y af ad ae hF j HA o V y;obtain⟨j0,j1,j2,Q,R,T,_⟩:=a.facts;unfold vJ at i;generalize hA:rdA s=A at*;generalize hn:jJ (rdB s)=n at*;by_cases d:jg A (n:Nat) l=0
   ·obtain⟨_,y1,y2,y3,J,_⟩:=N.out d;rw[K.out]at J;simp only[Option.some.injEq,Prod.mk.injEq]at J;have C:=qQ (qU y1 (qU y2 (qU y3 J.1)));rw[d]at i;clear N O d y1 y2 y3 J K hA hn;go_wp2_with fail;refine i.out.mono ?_;rintro e w2⟨rfl,b⟩;have z:=a.below b;have W:=bj k b;have HI:=qQ (tm M.out b (qZ _));clear b a k i M p t u D G H j0 j1 j2 Q R T;obtain⟨p,t,u,D,G,H,_⟩:=z.facts;go_wp2;refine bodyPost_ret (v:=.tuple #[.agg #[.string A,.int .i64 (n:Nat),.slice B l.length c],.int .i64 0]) (by simp[results,Tryz.results95,go_sem,p,t,u]) rfl ⟨.slice B l.length c, ?_, ?_,fI W _ _ _⟩
    ·rw[C.out.1,C.out.2.1,C.out.2.2.1];rfl
    ·rw[<-C.out.2.2.2];exact cv (((HI.out.kept (cj _ w.heap.size 0 _) (.inr f)).kept (cj _ w.heap.size 1 _) (.inr f)).kept (cj _ w.heap.size 2 _) (.inr f)) (by simp)
   ·have ac:=O.out d;have L:=qQ fun P e=>Kj (w:=w) (w':=P) (e:=e) ac
    have t3:(jg A (n:Nat) l != 0)=true:=(by simp;exact d);have t4:(jg A (n:Nat) l==0)=false:=(by simp;exact d);clear N O d K hA hn ac M f;generalize jg A (n:Nat) l=r at*;go_wp2_with fail;refine i.out.mono ?_;rintro e w2⟨rfl,b⟩;have z:=a.below b;have W:=bj k b;clear b a k i p t u D G H j0 j1 j2 Q R T;obtain⟨p,t,u,D,G,H,_⟩:=z.facts;obtain⟨c0,c1,c2,_⟩:=(z.set (.string ⟨#[]⟩) (.int .i64 0) (.slice none 0 0)).facts;go_wp2;exact bodyPost_ret (v:=.tuple #[.agg #[.string ByteArray.empty,.int .i64 0,.slice none 0 0],.int .i64 10]) (by simp[results,Tryz.results95,go_sem,c0,c1,c2];rfl) rfl (L.out _ _ ⟨rfl,fI W _ _ _⟩)
theorem Mg(s:Tw)(w:World)(d:s.size<=100000):Calls prog 95 #[.string s] w (Mq s w):=(Kk s w d).mono fun e f ⟨u,a,b,c⟩=>⟨u,a,ke.xD b,c⟩
end
section
open Go.ChangeShapes Go.WideShapes Go.ChangeAt Go.RowKit Go.Deep
theorem Mb: ∃a,prog.underlying 64=some (.struct a)/\oneCellFields prog a=true/\a.size=3 /\
  (a[0]?.map Field.type=some 9/\a[1]?.map Field.type=some 9/\a[2]?.map Field.type=some 24) :=
 ⟨_,Tryz.underlying64,by kernel_rfl,by kernel_rfl,by kernel_rfl,by kernel_rfl,by kernel_rfl⟩
theorem Kv: prog.cellsOf 64=3:=by kernel_rfl
structure pB(x:jD):Prop where
 t:x.t.size<=maxLen
 d:x.d.size<=maxLen
 b:x.b<18446744073709551616
theorem Mc{H:Type}{enc:TypeId × Value->H}{W:World}{u:Nat}{cs:List Value}{y:DataW H × List MemPlace}
  (A:DataW.trod enc prog W 0 (fun _=>true) true u 64 cs=some y):∃x,cs=gP x/\pB x:=by
 obtain⟨g,G,F,S,M,N,O⟩:=Mb;obtain⟨d,n,_,rfl,l,I,B⟩:=DataW.trod_struct G A;rw[Kv]at l
 match cs,l with
 | [c0,c1,c2],_ =>
   have step:∀(i:Nat) (t:TypeId),g[i]?.map Field.type=some t->∃p,d[i]? = some p/\DataW.trod enc prog W 0 (fun _=>true) true n t ((([c0,c1,c2]:List Value).drop i).take 1)=some p:=by
    intro i t c;cases a:g[i]? with
    | none=>rw[a]at c;cases c
    | some f =>
      rw[a]at c;obtain rfl:f.type=t:=(by simpa using c);obtain⟨D,C⟩:=hone_of F i f a;have b:=B i f a;rw[D,C]at b;have j:i<d.length:=(by rw[I];exact(qb.1 a).1);refine⟨d[i],qD j, ?_⟩;rw[b,qD j]
   obtain⟨T,_,v⟩:=step 0 _ M;obtain⟨U,_,b⟩:=step 1 _ N;obtain⟨V,_,z⟩:=step 2 _ O;obtain⟨m,q,_,P⟩:=DataW.trod_string Tryz.underlying9 v;obtain⟨o,r,_,Q⟩:=DataW.trod_string Tryz.underlying9 b;obtain⟨k,s,_,R⟩:=Kq Tryz.underlying24 z;refine⟨⟨m,o,k⟩, ?_,P,Q, ?_⟩
   ·have J:c0 = .string m:=(by simpa using q);have K:c1 = .string o:=(by simpa using r);have L:c2 = .float .f64 k:=(by simpa using s);rw[J,K,L];rfl
   ·exact of_decide_eq_true (show decide (k<2 ^ 64)=true from R)
theorem Ky{p:Nat->jD->Prop}:∀n,(∀i,i<n->∃x,p i x)->∃l:List jD,l.length=n/\∀i x,l[i]? = some x->p i x
 | 0,_=>⟨[],rfl,fun i x h=>by simp at h⟩
 | n+1,h=>by
   obtain⟨l,b,d⟩:=Ky n (fun i g=>h i (by omega));obtain⟨x,f⟩:=h n (by omega);refine⟨l++[x],by rw[qI,b];rfl,fun i y a=>?_⟩;rcases Nat.lt_or_ge i n with c|c
   ·rw[List.getElem?_append_left (by omega)]at a;exact d i y a
   ·rw[List.getElem?_append_right (by omega),b]at a
    have:i=n:=by
     have:=(qM.1 a).1;simp at this;omega
    subst this;rw[Nat.sub_self]at a;obtain rfl:x=y:=(by simpa using a);exact f
def nV(w:World)(v:Value)(l:List jD):Prop:=ke w v l/\l.length<=maxLen/\∃A c,v = .slice A l.length c
theorem Md{H:Type}{enc:TypeId × Value->H}{W:World}{B:Nat}{c:Value}{d:DataW H}{p:List MemPlace}
  (J:DataW.trod enc prog W 0 (fun _=>true) true B 40 [c]=some (d,p)) (y:∀x∈p,x.block<W.heap.size):∃l,nV W c l/\∀x∈l,pB x:=by
 rcases open_slice Tryz.underlying40 J with⟨k,f⟩|⟨a,len,o,m,n,D,R,k,_,U,V,M,f,g⟩
 ·obtain rfl:c = .slice none 0 0:=by simpa using k
  exact⟨[],⟨qX ⟨rfl,_,_,rfl⟩,qH _,_,_,rfl⟩,fun x f=>(by cases f)⟩
 ·obtain rfl:c = .slice (some a) len o:=by simpa using k
  simp only[Prod.mk.injEq]at f;obtain⟨rfl,rfl⟩:=f;simp only[if_true]at M;rw[Kv]at g y;by_cases L:len=0
  ·subst L;exact⟨[],⟨qX ⟨rfl,_,_,rfl⟩,qH _,_,_,rfl⟩,fun x f=>(by cases f)⟩
  ·have each:∀i,i<len->∃x,pB x/\∀j u,(gP x)[j]? = some u->W.cell? (a.add (i*3+j))=some u:=by
    intro i T;obtain⟨S,G,P⟩:=g i (by omega);obtain⟨_,I,C⟩:=World.cells?_some G;obtain⟨x,rfl,N⟩:=Mc P;refine⟨x,N,fun j u z=>?_⟩;have K:j<3:=(by have:=(qM.1 z).1;rw[I]at this;exact this);rw[<-Go.Deep.add_add,C j K];exact z
   obtain⟨b,off,Q⟩:=a
   have O:Q=none:=by
    obtain⟨x,_,f⟩:=each 0 (by omega);simpa[Addr.add] using World.cell?_spot (f 0 _ rfl)
   subst O;obtain⟨l,t,v⟩:=Ky len each;have F:b<W.heap.size:=y (.cell b off) (qA _ (MemPlace.mem_row.2 ⟨0,by omega,by simp⟩))
   have A:∀i j:Nat,(⟨b,off,none⟩:Addr).add (i*3+j)=⟨b,off+i*3+j,none⟩:=fun i j=>by
    have:(⟨b,off,none⟩:Addr).add (i*3+j)=⟨b,off+(i*3+j),none⟩:=(by unfold Addr.add;split<;>simp_all);rw[this,Nat.add_assoc]
   refine⟨l,⟨qY ⟨by omega,b,off,o,by rw[t],by omega,F,fun i x f=>?_⟩,by omega,_,_,by rw[t]⟩,fun x f=>?_⟩
   ·have h:=(v i x f).2;have q:=h 0 _ rfl;have r:=h 1 _ rfl;have s:=h 2 _ rfl;rw[A]at q r s;exact⟨q,r,s⟩
   ·obtain⟨i,g⟩:=List.getElem?_of_mem f;exact(v i x g).1
theorem nV.below{w w':World}{v:Value}{l:List jD}{B:Nat}(h:nV w v l)(b:Below B w w')(a:w.heap.size<=B):nV w' v l:=⟨h.1.below b a,h.2⟩
structure bD where
 k:Nat
 s:Tw
 a:Int
 b:Int
 v:Value
 l:List jD
def tw(x:bD):List Value:=[.int .u8 (x.k:Nat),.string x.s,.int .i64 x.a,.int .i64 x.b,x.v]
abbrev Ku(x:bD):Value:=.agg #[.int .u8 (x.k:Nat),.string x.s,.int .i64 x.a,.int .i64 x.b,x.v]
def T5: Value:=.agg #[.int .u8 0,.string ByteArray.empty,.int .i64 0,.int .i64 0,.slice none 0 0]
structure fL(W:World)(x:bD):Prop where
 k:x.k<256
 s:x.s.size<=maxLen
 a0:-9223372036854775808<=x.a
 a1:x.a<=9223372036854775807
 b0:-9223372036854775808<=x.b
 b1:x.b<=9223372036854775807
 v:nV W x.v x.l
 l:∀y∈x.l,pB y
theorem fL.below{w w':World}{x:bD}{B:Nat}(h:fL w x)(b:Below B w w')(a:w.heap.size<=B):fL w' x:=⟨h.k,h.s,h.a0,h.a1,h.b0,h.b1,h.v.below b a,h.l⟩
theorem Kg: ∃a,prog.underlying 42=some (.struct a)/\oneCellFields prog a=true/\a.size=5 /\
  (a[0]?.map Field.type=some 5/\a[1]?.map Field.type=some 9/\a[2]?.map Field.type=some 3/\a[3]?.map Field.type=some 3/\a[4]?.map Field.type=some 40) :=
 ⟨_,Tryz.underlying42,by kernel_rfl,by kernel_rfl,by kernel_rfl,by kernel_rfl,by kernel_rfl,by kernel_rfl,by kernel_rfl⟩
theorem Mf: prog.cellsOf 42=5:=by kernel_rfl
theorem Mh{H:Type}{enc:TypeId × Value->H}{W:World}{J:Nat}{cs:List Value}{d:DataW H}{p:List MemPlace}
  (P:DataW.trod enc prog W 0 (fun _=>true) true J 42 cs=some (d,p)) (S:∀x∈p,x.block<W.heap.size):
  ∃x,cs=tw x/\fL W x:=by
 obtain⟨r,X,V,aa,t0,t1,t2,t3,t4⟩:=Kg;obtain⟨m,n,_,g,u,Z,Q⟩:=DataW.trod_struct X P;simp only[Prod.mk.injEq]at g;obtain⟨_,rfl⟩:=g;rw[Mf]at u
 match cs,u with
 | [c0,c1,c2,c3,c4],_ =>
   have step:∀(i:Nat) (t:TypeId),r[i]?.map Field.type=some t->∃B,m[i]? = some B/\DataW.trod enc prog W 0 (fun _=>true) true n t ((([c0,c1,c2,c3,c4]:List Value).drop i).take 1)=some B:=by
    intro i t c;cases a:r[i]? with
    | none=>rw[a]at c;cases c
    | some f =>
      rw[a]at c;obtain rfl:f.type=t:=(by simpa using c);obtain⟨T,j⟩:=hone_of V i f a;have b:=Q i f a;rw[T,j]at b;have s:i<m.length:=(by rw[Z];exact(qb.1 a).1);refine⟨m[i],qD s, ?_⟩;rw[b,qD s]
   obtain⟨y0,_,K⟩:=step 0 _ t0;obtain⟨y1,_,b⟩:=step 1 _ t1;obtain⟨y2,_,L⟩:=step 2 _ t2;obtain⟨y3,_,M⟩:=step 3 _ t3;obtain⟨⟨C,p4⟩,Y,N⟩:=step 4 _ t4;obtain⟨k,D,_,wk⟩:=DataW.trod_int Tryz.underlying5 K;obtain⟨A,F,_,w1⟩:=DataW.trod_string Tryz.underlying9 b;obtain⟨v,G,_,w2⟩:=DataW.trod_int Tryz.underlying3 L;obtain⟨y,I,_,w3⟩:=DataW.trod_int Tryz.underlying3 M;obtain⟨z,rfl,j⟩:=Yx wk;have o:=bounds_i64 w2;have q:=bounds_i64 w3;have O:DataW.trod enc prog W 0 (fun _=>true) true n 40 [c4]=some (C,p4):=N;obtain⟨l,R,U⟩:=Md O (fun x g=>S x (List.mem_flatMap.2 ⟨_,qO Y,g⟩));refine⟨⟨z,A,v,y,c4,l⟩, ?_,j,w1,o.1,o.2,q.1,q.2,R,U⟩;have q0:c0 = .int .u8 (z:Nat):=(by simpa using D);have q1:c1 = .string A:=(by simpa using F);have q2:c2 = .int .i64 v:=(by simpa using G);have q3:c3 = .int .i64 y:=(by simpa using I);rw[q0,q1,q2,q3];rfl
def pC(w:World)(v:Value)(l:List bD):Prop :=
 (l=[]/\∃a c,v = .slice a 0 c)∨∃b off d,v = .slice (some ⟨b,off,none⟩) l.length d/\l.length<=d/\d<=maxLen/\b<w.heap.size /\
  ∀i x,l[i]? = some x->∀j u,(tw x)[j]? = some u->w.cell? ⟨b,off+(i*5+j),none⟩=some u
theorem pC.form{w:World}{v:Value}{l:List bD}(h:pC w v l):∃A off g,v = .slice A l.length g/\l.length<=maxLen /\
  ∀i x,l[i]? = some x->∃b,A=some ⟨b,off,none⟩/\b<w.heap.size/\w.cell? ⟨b,off+i*5,none⟩=some (.int .u8 (x.k:Nat))/\w.cell? ⟨b,off+i*5+1,none⟩=some (.string x.s)/\w.cell? ⟨b,off+i*5+2,none⟩=some (.int .i64 x.a) /\
   w.cell? ⟨b,off+i*5+3,none⟩=some (.int .i64 x.b)/\w.cell? ⟨b,off+i*5+4,none⟩=some x.v:=by
 rcases h with⟨rfl,a,c,rfl⟩|⟨b,off,g,rfl,m,n,j,d⟩
 ·exact⟨a,0,c,rfl,qH _,fun i x h=>by simp at h⟩
 ·exact⟨some ⟨b,off,none⟩,off,g,rfl,by omega,fun i x f=>⟨b,rfl,j,d i x f 0 _ rfl,d i x f 1 _ rfl,d i x f 2 _ rfl,d i x f 3 _ rfl,d i x f 4 _ rfl⟩⟩
theorem T6{W:World}{r:Reach}{base:Nat}{v:Value}(h:Value.okWide prog W r base 42 v):∃cs,v = .agg cs:=by
 obtain⟨b,a,_⟩:=Kg;obtain⟨cs,e,_⟩:=okWide_struct a h;exact⟨cs,e⟩
theorem T7{H:Type}{enc:TypeId × Value->H}{W:World}{v:Value}{d:DataW H}{p:List MemPlace}(g:∃cs,v = .agg cs)
  (a:DataW.Trod enc prog W 0 (fun _=>true) true 42 v d p) (c:∀x∈p,x.block<W.heap.size):∃x,v=Ku x/\fL W x:=by
 obtain⟨cs,rfl⟩:=g;obtain⟨j,b⟩:=a;obtain⟨x,i,f⟩:=Mh b c;refine⟨x, ?_,f⟩;have e:cs.toList=tw x:=i;rw[<-Array.toArray_toList (xs:=cs),e];rfl
theorem T8{H:Type}{enc:TypeId × Value->H}{W a:World}{v:Value}{d:DataW H}{p:List MemPlace}
  (f:DataW.Trod enc prog W 0 (fun _=>true) true 42 v d p) (g:∀x∈p,x.block<W.heap.size) (c:Below W.heap.size W a):
  DataW.Trod enc prog a 0 (fun b=>decide (b<W.heap.size)) true 42 v d p :=
 Below.trod Xy (by kernel_rfl) (of_decide_eq_true (by kernel_rfl)) f c g
structure nY where
 d:Nat
 r:Nat
 m:Nat
abbrev QQ(x:nY):Value:=.agg #[.int .u64 (x.d:Nat),.float .f64 x.r,.int .u16 (x.m:Nat)]
def T9: Value:=.agg #[.int .u64 0,.float .f64 0,.int .u16 0]
structure QX(x:nY):Prop where
 d:x.d<18446744073709551616
 r:x.r<18446744073709551616
 m:x.m<65536
theorem Kb: ∃a,prog.underlying 27=some (.struct a)/\oneCellFields prog a=true/\a.size=3 /\
  (a[0]?.map Field.type=some 23/\a[1]?.map Field.type=some 24/\a[2]?.map Field.type=some 25) :=
 ⟨_,Tryz.underlying27,by kernel_rfl,by kernel_rfl,by kernel_rfl,by kernel_rfl,by kernel_rfl⟩
theorem Ml: prog.cellsOf 27=3:=by kernel_rfl
theorem Tq{W:World}{r:Reach}{base:Nat}{v:Value}(h:Value.okWide prog W r base 27 v):∃cs,v = .agg cs:=by
 obtain⟨b,a,_⟩:=Kb;obtain⟨cs,e,_⟩:=okWide_struct a h;exact⟨cs,e⟩
theorem Tx{H:Type}{enc:TypeId × Value->H}{W:World}{v:Value}{d:DataW H}{p:List MemPlace}(O:∃cs,v = .agg cs)
  (J:DataW.Trod enc prog W 0 (fun _=>true) true 27 v d p) (aa:∀x∈p,x.block<W.heap.size):∃x,v=QQ x/\QX x:=by
 obtain⟨cs,rfl⟩:=O;obtain⟨C,g⟩:=J;have g:DataW.trod enc prog W 0 (fun _=>true) true C 27 cs.toList=some (d,p):=g;obtain⟨m,N,M,ab,T,U,V⟩:=Kb;obtain⟨xs,n,_,hx,j,P,o⟩:=DataW.trod_struct N g;rw[Ml]at j;obtain⟨l,r⟩:∃l,l=cs.toList:=⟨_,rfl⟩
 rw[<-r]at j o
 match l,j with
 | [c0,c1,c2],_ =>
   have step:∀(i:Nat) (t:TypeId),m[i]?.map Field.type=some t->∃y,xs[i]? = some y/\DataW.trod enc prog W 0 (fun _=>true) true n t ((([c0,c1,c2]:List Value).drop i).take 1)=some y:=by
    intro i t c;cases a:m[i]? with
    | none=>rw[a]at c;cases c
    | some f =>
      rw[a]at c;obtain rfl:f.type=t:=(by simpa using c);obtain⟨L,K⟩:=hone_of M i f a;have b:=o i f a;rw[L,K]at b;have q:i<xs.length:=(by rw[P];exact(qb.1 a).1);refine⟨xs[i],qD q, ?_⟩;rw[b,qD q]
   obtain⟨y0,_,G⟩:=step 0 _ T;obtain⟨y1,_,b⟩:=step 1 _ U;obtain⟨y2,_,I⟩:=step 2 _ V;obtain⟨k0,z,_,X⟩:=DataW.trod_int Tryz.underlying23 G;obtain⟨k,A,_,Y⟩:=Kq Tryz.underlying24 b;obtain⟨k2,B,_,Z⟩:=DataW.trod_int Tryz.underlying25 I;obtain⟨s,rfl,D⟩:=Y9 X;obtain⟨u,rfl,F⟩:=Yq Z;refine⟨⟨s,k,u⟩, ?_,D,of_decide_eq_true (show decide (k<2 ^ 64)=true from Y),F⟩;have Q:c0 = .int .u64 (s:Nat):=(by simpa using z);have R:c1 = .float .f64 k:=(by simpa using A);have S:c2 = .int .u16 (u:Nat):=(by simpa using B);rw[<-Array.toArray_toList (xs:=cs),<-r,Q,R,S]
theorem Tz{H:Type}{enc:TypeId × Value->H}{W a:World}{v:Value}{d:DataW H}{p:List MemPlace}
  (f:DataW.Trod enc prog W 0 (fun _=>true) true 27 v d p) (g:∀x∈p,x.block<W.heap.size) (c:Below W.heap.size W a):
  DataW.Trod enc prog a 0 (fun b=>decide (b<W.heap.size)) true 27 v d p :=
 Below.trod Xy (by kernel_rfl) (of_decide_eq_true (by kernel_rfl)) f c g
end
section
open Go.RowKit
def bE(y:jD):Bool:=decide (300<y.t.size)||decide (300<y.d.size)
def dO(x:bD):Bool:=decide (300<x.s.size)||decide (20<x.l.length)||x.l.any bE
def gS(l:List bD)(a:Nat):Bool:=l.any dO||decide (a<l.length)
theorem Kc{α:Type}(p:α->Bool)(l:List α)(k:Nat)(x:α)(h:l[k]? = some x)(a:(l.take k).any p=false)(b:p x=false):(l.take (k+1)).any p=false:=by
 rw[List.take_add_one,h,List.any_append,a];simp[b]
theorem nU{α:Type}(p:α->Bool)(l:List α)(k:Nat)(x:α)(h:l[k]? = some x)(a:p x=true):l.any p=true:=List.any_eq_true.2 ⟨x,qO h,a⟩
theorem ke.zz{w:World}{v:Value}{l:List jD}(h:ke w v l){i:Nat}{x:jD}(a:l[i]? = some x):∃b off c,v = .slice (some ⟨b,off,none⟩) l.length c/\b<w.heap.size/\w.cell? ⟨b,off+i*3,none⟩=some (.string x.t)/\w.cell? ⟨b,off+i*3+1,none⟩=some (.string x.d)/\w.cell? ⟨b,off+i*3+2,none⟩=some (.float .f64 x.b):=by
 rcases h with⟨rfl,-⟩|⟨m,b,off,f,k,n,j,g⟩
 ·simp at a
 ·obtain⟨c0,c1,c2⟩:=g i x a;exact⟨b,off,f,k,j,c0,c1,c2⟩
theorem Mm(v:Value)(l:List bD)(a:Nat)(w:World)(hv:pC w v l)(Z:∀x∈l,fL w x)(hm:a<=1000):
  Calls prog 6 #[v,.int .i64 (a:Nat)] w fun e w'=>e = .returned (.bool (gS l a))/\w=w':=by
 obtain⟨A,off,ah,rfl,ml,T⟩:=hv.form;unfold maxLen at ml;have HC:=qQ T;have HO:=qQ Z;clear hv T Z;obtain⟨n,C⟩:∃n,n=l.length:=⟨_,rfl⟩
 rw[<-C]at ml ⊢;have u:=qQ C;clear C;go_enter func6,ntmps6;go_wp2;go_loopw [5] (fun i wr=>∃k:Nat,k<=n/\i = .int .i64 (k:Nat)/\(l.take k).any dO=false/\wr=w) (fun i _=>n-(intOf i).toNat)
 case atStart=>exact⟨0,qH _,rfl,rfl,rfl⟩
 case round =>
  obtain⟨k,hk,rfl,R,rfl⟩:=hrel;have K:=qQ R;clear R;by_cases W:k<n
  ·have l1:(k:Int)<(n:Int):=(by omega);obtain⟨x,p⟩:∃x,l[k]? = some x:=⟨_,qD (by rw[<-u.out];exact W)⟩
   obtain⟨b,rfl,ai,d0,d1,d2,d3,O⟩:=HC.out k x p;have ok:=HO.out x (qO p);obtain⟨U,X,A2,c2,D⟩:=ok.v;rw[D]at O;have m1:=ok.s;unfold maxLen at m1 X;have o:=qQ p;have HE:=qQ U;have ae:=qQ D;have ad:=qQ ok.l;have f:dO x=(decide (300<x.s.size)||decide (20<x.l.length)||x.l.any bE):=rfl;clear p ok U D;have af:(300<x.s.size)∨(x.s.size<=300/\20<x.l.length)∨(x.s.size<=300/\x.l.length<=20):=(by omega);rcases af with H|⟨H,I⟩|⟨H,I⟩
   ·have c:=qQ (show gS l a=true by unfold gS;rw[nU dO l k x o.out (by rw[f,qW H];rfl)];rfl);have r1:decide ((300:Int)<(x.s.size:Int))=true:=qW (by omega);clear f;go_wp2;go_ret;exact⟨lr c.out.symm,rfl⟩
   ·have c:=qQ (show gS l a=true by unfold gS;rw[nU dO l k x o.out (by rw[f,qW I];simp)];rfl);have r1:decide ((300:Int)<(x.s.size:Int))=false:=qG (by omega);have r2:decide ((20:Int)<(x.l.length:Int))=true:=qW (by omega);clear f;go_wp2;go_ret;exact⟨lr c.out.symm,rfl⟩
   ·have r1:decide ((300:Int)<(x.s.size:Int))=false:=qG (by omega);have r2:decide ((20:Int)<(x.l.length:Int))=false:=qG (by omega);obtain⟨m,B⟩:∃m,m=x.l.length:=⟨_,rfl⟩
    rw[<-B]at O r2 X I;have M:=qQ B;have L:=qQ (show x.l.any bE=true->gS l a=true from fun q=>by unfold gS;rw[nU dO l k x o.out (by rw[f,q];simp)];rfl);have aa:=qQ (show x.l.any bE=false->(l.take (k+1)).any dO=false from fun q=>Kc dO l k x o.out K.out (by rw[f,q,qG (by omega),qG (by omega)];rfl));clear f B;go_wp2;go_loopw [6] (fun i wi=>∃j:Nat,j<=m/\i = .int .i64 (j:Nat)/\(x.l.take j).any bE=false/\wi=wr) (fun i _=>m-(intOf i).toNat)
    case atStart=>exact⟨0,qH _,rfl,rfl,rfl⟩
    case round =>
     obtain⟨j,hj,rfl,S,rfl⟩:=hrel;have N:=qQ S;clear S;by_cases V:j<m
     ·have l2:(j:Int)<(m:Int):=(by omega);obtain⟨y,r⟩:∃y,x.l[j]? = some y:=⟨_,qD (by rw[<-M.out];exact V)⟩
      obtain⟨b3,o3,c3,P,-,y0,y1,-⟩:=HE.out.zz r;have Q:=ae.out.symm.trans P;obtain⟨rfl,-,-⟩:=Value.slice.inj Q;have F:=ad.out y (qO r);have n1:=F.t;have n2:=F.d;unfold maxLen at n1 n2;have z:=qQ r;clear r P Q F;have ag:(300<y.t.size)∨(y.t.size<=300/\300<y.d.size)∨(y.t.size<=300/\y.d.size<=300):=(by omega);rcases ag with G|⟨G,p2⟩|⟨G,p2⟩
      ·have c:=qQ (L.out (nU bE x.l j y z.out (by unfold bE;rw[qW G];rfl)));have u1:decide ((300:Int)<(y.t.size:Int))=true:=qW (by omega);go_wp2;go_ret;exact⟨lr c.out.symm,rfl⟩
      ·have c:=qQ (L.out (nU bE x.l j y z.out (by unfold bE;rw[qW p2];simp)));have u1:decide ((300:Int)<(y.t.size:Int))=false:=qG (by omega);have u2:decide ((300:Int)<(y.d.size:Int))=true:=qW (by omega);go_wp2;go_ret;exact⟨lr c.out.symm,rfl⟩
      ·have ac:=qQ (Kc bE x.l j y z.out N.out (by unfold bE;rw[qG (by omega),qG (by omega)];rfl));have u1:decide ((300:Int)<(y.t.size:Int))=false:=qG (by omega);have u2:decide ((300:Int)<(y.d.size:Int))=false:=qG (by omega);go_wp2;go_roundw
       case rel=>exact⟨j+1,by omega,by go_num,ac.out,trivial⟩
       case measure=>simp[intOf];omega
     ·obtain rfl:j=m:=(by omega);have g:=N.out;rw[qg (by rw[<-M.out];exact qZ _)]at g;have ab:=qQ (aa.out g);have l2:¬(j:Int)<(j:Int):=(by omega);clear g V;go_wp2;go_roundw
      case rel=>exact⟨k+1,by omega,by go_num,ab.out,trivial⟩
      case measure=>simp[intOf];omega
  ·obtain rfl:k=n:=(by omega);have g:=K.out;rw[qg (by rw[<-u.out];exact qZ _)]at g;have c:=qQ (show gS l a=decide (a<k) by unfold gS;rw[g,u.out];rfl);clear g W;by_cases Y:a<k
   ·have t1:decide ((a:Int)<(k:Int))=true:=qW (by omega);have J:decide (a<k)=true:=qW Y;go_wp2;go_ret;exact⟨by rw[c.out,J];rfl,rfl⟩
   ·have t1:decide ((a:Int)<(k:Int))=false:=qG (by omega);have J:decide (a<k)=false:=qG Y;go_wp2;go_ret;exact⟨by rw[c.out,J];rfl,rfl⟩
end
end Go.Proofs.YthejglbnkmimjaaGreat

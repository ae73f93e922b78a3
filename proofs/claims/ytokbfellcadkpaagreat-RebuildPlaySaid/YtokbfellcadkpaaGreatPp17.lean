import Derived.Test.YtokbfellcadkpaaGreatPp16
import Derived.Deep.AppendLies
import Derived.Test.YtokbfellcadkpaaGreatPp10
import Derived.Deep.RegionHeldLaw
set_option linter.unusedVariables false
set_option maxRecDepth 100000
set_option maxHeartbeats 9000000
namespace Go.Proofs.YtokbfellcadkpaaGreat
open Tryz
section
open Go.RowKit
def gJ(w:World)(g:Nat)(T:TypeId)(x y z:Value):Prop:=w.heap[g]? = some (.cells #[x,y,z] T (0,0))
theorem gJ.new(w:World)(T:TypeId)(x y z:Value):gJ (w.alloc (.cells #[x,y,z] T (0,0))) w.heap.size T x y z:=by
 show(w.heap.push _)[w.heap.size]? = _;simp
theorem gJ.lt{w:World}{g:Nat}{T:TypeId}{x y z:Value}(h:gJ w g T x y z):g<w.heap.size:=by
 obtain⟨a,_⟩:=qm.1 h;exact a
theorem gJ.below{w w':World}{g:Nat}{T:TypeId}{x y z:Value}(h:gJ w g T x y z)(a:Below w.heap.size w w'):gJ w' g T x y z:=(a.block g h.lt).trans h
theorem gJ.facts{w:World}{g:Nat}{T:TypeId}{x y z:Value}(h:gJ w g T x y z):w.cell? ⟨g,0,none⟩=some x/\w.cell? ⟨g,1,none⟩=some y/\w.cell? ⟨g,2,none⟩=some z/\w.frozen? ⟨g,0,none⟩=false/\w.frozen? ⟨g,1,none⟩=false/\w.frozen? ⟨g,2,none⟩=false/\g<w.heap.size:=by
 refine⟨?_, ?_, ?_, ?_, ?_, ?_,h.lt⟩<;>unfold gJ at h<;>simp[World.cell?,World.frozen?,h]
def cM(x:jg):List Value:=[.string x.t,.string x.d,.float .f64 x.b]
def uO(w:World)(v:Value)(l:List jg):Prop :=
 (l=[]/\∃a c,v = .slice a 0 c)∨(0<l.length/\∃b off f,v = .slice (some ⟨b,off,none⟩) l.length f/\l.length<=f/\b<w.heap.size /\
  ∀i x,l[i]? = some x->w.cell? ⟨b,off+i*3,none⟩=some (.string x.t)/\w.cell? ⟨b,off+i*3+1,none⟩=some (.string x.d)/\w.cell? ⟨b,off+i*3+2,none⟩=some (.float .f64 x.b))
theorem uO.below{w w':World}{v:Value}{l:List jg}{B:Nat}(h:uO w v l)(a:Below B w w')(d:w.heap.size<=B):uO w' v l:=by
 rcases h with h|⟨g,b,off,f,m,k,c,j⟩
 ·exact qX h
 ·exact qY ⟨g,b,off,f,m,k,qR c a.size,fun i x n=>by
   obtain⟨c0,c1,c2⟩:=j i x n;exact⟨(a.cell (qR c d)).trans c0,(a.cell (qR c d)).trans c1,(a.cell (qR c d)).trans c2⟩⟩
theorem Q1: ∀(l:List jg) (i:Nat) (x:jg),l[i]? = some x->∀j,j<3->(l.flatMap cM)[i*3+j]? = (cM x)[j]?
 | [],i,x,h=>by simp at h
 | y::l,0,x,h=>by
   intro j a;obtain rfl:y=x:=(by simpa using h);rw[List.flatMap_cons,Nat.zero_mul,Nat.zero_add,List.getElem?_append_left (by exact a)]
 | y::l,i+1,x,h=>by
   intro j a;have b:l[i]? = some x:=(by simpa using h);have e:(i+1)*3+j=3+(i*3+j):=(by omega);rw[List.flatMap_cons,e,List.getElem?_append_right (by show 3<=_;omega)];show(l.flatMap cM)[3+(i*3+j)-3]? = _;rw[Nat.add_sub_cancel_left];exact Q1 l i x b j a
theorem uO.xL{w:World}{base:Nat}{v:Value}{l:List jg}(h:w.ownsRow base 55 3 v l.length (l.flatMap cM)):uO w v l:=by
 have b:=h;rcases h.2 with⟨a,j⟩|⟨g,f,n,a,o,k,m,q,r,s⟩
 ·exact qX ⟨List.length_eq_zero_iff.1 j,none,0,a⟩
 ·by_cases d:l=[]
  ·subst d;exact qX ⟨rfl,_,_,a⟩
  ·refine qY ⟨List.length_pos_iff.2 d,g,0,f,a,m,(qm.1 k).1,fun i x c=>?_⟩;have p:i<l.length:=(qP.1 c).1;rw[a]at b;have c0:=(b.cellAt (i*3+0) (by omega)).trans (Q1 l i x c 0 (by omega));have c1:=(b.cellAt (i*3+1) (by omega)).trans (Q1 l i x c 1 (by omega));have c2:=(b.cellAt (i*3+2) (by omega)).trans (Q1 l i x c 2 (by omega));rw[Nat.zero_add];exact⟨c0,c1,c2⟩
theorem Q4{w w':World}{base B n size:Nat}{e:TypeId}{v:Value}{xs:List Value}(h:w.ownsRow base e size v n xs)(i:Below B w w')(f:w.heap.size<=B):w'.ownsRow base e size v n xs:=by
 refine⟨h.1, ?_⟩;rcases h.2 with d|⟨g,b,c,l,j,a,r⟩
 ·exact qX d
 ·obtain⟨k,_⟩:=qm.1 a;exact qY ⟨g,b,c,l,j,(i.block g (qR k f)).trans a,r⟩
theorem CG: (prog.info? 55).map (fun i=>(i.zero,i.size,i.bytes))=some (some (.agg #[.string ByteArray.empty,.string ByteArray.empty,.float .f64 0]),3,40):=by kernel_rfl
theorem qZ3(l:List jg)(k:Nat)(x:jg)(h:l[k]? = some x):l.take (k+1)=l.take k++[x]:=by
 rw[List.take_add_one,h];rfl
theorem uO.form{w:World}{v:Value}{l:List jg}(h:uO w v l):∃A c,v = .slice A l.length c:=by
 rcases h with⟨rfl,a,c,rfl⟩|⟨_,b,off,d,rfl,_⟩
 ·exact⟨_,_,rfl⟩
 ·exact⟨_,_,rfl⟩
theorem uO.pos{w:World}{A:Option Addr}{n c:Nat}{l:List jg}(h:uO w (.slice A n c) l)(g:0<l.length):∃b off,A=some ⟨b,off,none⟩/\b<w.heap.size /\
  ∀i x,l[i]? = some x->w.cell? ⟨b,off+i*3,none⟩=some (.string x.t)/\w.cell? ⟨b,off+i*3+1,none⟩=some (.string x.d)/\w.cell? ⟨b,off+i*3+2,none⟩=some (.float .f64 x.b):=by
 rcases h with⟨rfl,_⟩|⟨_,b,off,k,j,_,a,f⟩
 ·cases g
 ·cases j;exact⟨b,off,rfl,a,f⟩
end
section
open Go.RowKit
attribute [local go_sem] oy
structure rj(x:jg):Prop where
 t:x.t.size<=100000
 d:x.d.size<=100000
 b:x.b<18446744073709551616
structure ou(w:World)(s:Tw)(f:Int)(v:Value)(l:List jg):Prop where
 s:s.size<=100000
 f:(Lit.int .i64 f).wf=true
 v:uO w v l
 n:l.length<=300
 x:∀x∈l,rj x
theorem ou.below{w w':World}{s:Tw}{f:Int}{v:Value}{l:List jg}(h:ou w s f v l)(a:Below w.heap.size w w'):ou w' s f v l:=⟨h.s,h.f,h.v.below a (qK _),h.n,h.x⟩
end
section
open Go.RowKit
attribute [local go_sem] oy
theorem qZ4(p B c:Nat)(l:List jg)(w:World)(aa:l.length<=300)(T:∀x∈l,rj x)(H:p<w.heap.size)
  (Q:∀i x,l[i]? = some x->w.cell? ⟨p,B+i*3,none⟩=some (.string x.t)/\w.cell? ⟨p,B+i*3+1,none⟩=some (.string x.d)/\w.cell? ⟨p,B+i*3+2,none⟩=some (.float .f64 x.b)):
  Calls prog 120 #[.slice (some ⟨p,B,none⟩) l.length c] w fun e w'=>e = .returned (.int .i64 (gq l))/\Below w.heap.size w w':=by
 have X:=qQ (fun(k:Nat) (x:jg) D F Y=>Tq (l:=l) (k:=k) (x:=x) D F Y);have V:=qQ (fun(k:Nat) D F=>Tx (l:=l) (k:=k) D F);generalize gq l=r at*;go_enter func120,ntmps120;go_wp2;go_step3;go_wp2;go_step3;go_wp2;go_loopw [2,7] (fun e i wr=>∃k:Nat,k<=l.length/\i = .int .i64 k/\e = .int .i64 0/\(∀(i:Nat) (x:jg),i<k->l[i]? = some x->gT x=0)/\Below w.heap.size w wr) (fun _ i _=>l.length-(intOf i).toNat)
 case atStart=>exact⟨0,qF _,rfl,rfl,fun i x h=>absurd h (by omega),Below.refl _ _⟩
 case round =>
  obtain⟨k,hk,rfl,rfl,R,a⟩:=hrel;have C:=qQ R;clear R;by_cases Z:k<l.length
  ·obtain⟨x,u⟩:∃x,l[k]? = some x:=⟨l[k],qC Z⟩
   obtain⟨N,O,P⟩:=Q k x u;have K:=T x (qM u);have j:=qQ fun W=>th x.t x.d x.b W (by have:=K.t;unfold maxLen;omega) (by have:=K.d;unfold maxLen;omega)
   have m:=qQ u;have f:=qQ (show gT x=chk x.t x.d from rfl);have v:=yE a H N;have z:=yE a H O;have A:=yE a H P;clear u N O P K Q T;have S:=VT x.t x.d;generalize chk x.t x.d=o at*;have s1:(k:Int)<(l.length:Int):=(by omega);by_cases q:o=0
   ·subst q;have M:=f.out
    have L:∀(i:Nat) (y:jg),i<k+1->l[i]? = some y->gT y=0:=fun i y hi I=>by
     by_cases e:i=k
     ·subst e;rw[m.out]at I;cases I;exact M
     ·exact C.out i y (by omega) I
    have U:=qQ L;clear L M;obtain⟨t,d,n⟩:=x;simp only at v z A j;clear f m S;go_wp2_with fail;refine(j.out _).mono ?_;rintro e J⟨rfl,g⟩;have G:Below w.heap.size w J:=bj (a.alloc a.size _) g;clear a g v z A;go_wp2;go_roundw
    case rel=>exact⟨k+1,by omega,by go_num,rfl,U.out,G⟩
    case measure=>simp[intOf];omega
   ·have s:=X.out k x C.out m.out (by rw[f.out];exact q);rw[f.out]at s;have e1:((o:Int) != 0)=true:=(by simp;exact q);subst s;clear S q;obtain⟨t,d,n⟩:=x;simp only at v z A j;clear f m;go_wp2_with fail;refine(j.out _).mono ?_;rintro e J⟨rfl,g⟩;have G:Below w.heap.size w J:=bj (a.alloc a.size _) g;clear a g v z A;go_wp2
    (try rw[Exit.noGoto_ret])
    go_ret;exact⟨rfl,G⟩
  ·obtain rfl:k=l.length:=(by omega);have s1:¬(l.length:Int)<(l.length:Int):=(by omega);have s:=V.out _ C.out (qK _);subst s;go_wp2
   (try rw[Exit.noGoto_ret])
   go_ret;exact⟨rfl,a⟩
theorem J7(s:Tw)(f:Int)(A:Option Addr)(n c:Nat)(r:Int)(w:World)(v:s.size<=100000)(i:(Lit.int .i64 f).wf=true)(u:n<=300)
  (h:((s.size=0∨n=0)/\r=2)∨(¬(s.size=0∨n=0)/\(32<s.size∨8<n)/\r=3)∨(¬(s.size=0∨n=0)/\¬(32<s.size∨8<n)/\(f<0∨1073741824-(n:Int)<f)/\r=2)):
  Calls prog 55 #[uv s f (.slice A n c)] w fun e w'=>e = .returned (.int .i64 r)/\Below w.heap.size w w':=by
 have t:=bounds_i64 i;unfold uv;by_cases b:s.size=0
 ·have a:r=2:=by omega
  subst a;have j:((s.size:Int)==0)=true:=beq_iff_eq.2 (by omega);clear h;go_enter func55,ntmps55;go_wp2;go_ret;exact⟨rfl,(Below.refl _ _).alloc (qK _) _⟩
 ·have j:((s.size:Int)==0)=false:=qv.2 (by omega);by_cases d:n=0
  ·have a:r=2:=(by omega);subst a;have k:((n:Int)==0)=true:=beq_iff_eq.2 (by omega);clear h b d;go_enter func55,ntmps55;go_wp2;go_ret;exact⟨rfl,(Below.refl _ _).alloc (qK _) _⟩
  ·have k:((n:Int)==0)=false:=qv.2 (by omega);by_cases p:32<s.size
   ·have a:r=3:=(by omega);subst a;have l:decide ((32:Int)<(s.size:Int))=true:=qA (by omega);clear h b d;go_enter func55,ntmps55;go_wp2;go_ret;exact⟨rfl,(Below.refl _ _).alloc (qK _) _⟩
   ·have l:decide ((32:Int)<(s.size:Int))=false:=qW (by omega);by_cases q:8<n
    ·have a:r=3:=(by omega);subst a;have m:decide ((8:Int)<(n:Int))=true:=qA (by omega);clear h b d;go_enter func55,ntmps55;go_wp2;go_ret;exact⟨rfl,(Below.refl _ _).alloc (qK _) _⟩
    ·have m:decide ((8:Int)<(n:Int))=false:=qW (by omega);have a:r=2:=(by omega);subst a;by_cases g:f<0
     ·have o:decide (f<0)=true:=qA g;clear h b d;go_enter func55,ntmps55;go_wp2;go_ret;exact⟨rfl,(Below.refl _ _).alloc (qK _) _⟩
     ·have o:decide (f<0)=false:=qW g;have y:decide ((1073741824:Int)-(n:Int)<f)=true:=qA (by omega);clear h b d;go_enter func55,ntmps55;go_wp2;go_ret;exact⟨rfl,(Below.refl _ _).alloc (qK _) _⟩
theorem qZ5(s:Tw)(f:Int)(p a c:Nat)(l:List jg)(w:World)(z:1<=s.size)(A:s.size<=32)(v:1<=l.length)(y:l.length<=8)(q:0<=f)(u:f<=1073741824-(l.length:Int))(g:∀x∈l,rj x)(m:p<w.heap.size)
  (j:∀i x,l[i]? = some x->w.cell? ⟨p,a+i*3,none⟩=some (.string x.t)/\w.cell? ⟨p,a+i*3+1,none⟩=some (.string x.d)/\w.cell? ⟨p,a+i*3+2,none⟩=some (.float .f64 x.b)):
  Calls prog 55 #[uv s f (.slice (some ⟨p,a,none⟩) l.length c)] w fun e w'=>e = .returned (.int .i64 (gq l))/\Below w.heap.size w w':=by
 unfold uv;have B:((s.size:Int)==0)=false:=qv.2 (by omega);have C:((l.length:Int)==0)=false:=qv.2 (by omega);have D:decide ((32:Int)<(s.size:Int))=false:=qW (by omega);have F:decide ((8:Int)<(l.length:Int))=false:=qW (by omega);have G:decide (f<0)=false:=qW (by omega);have H:decide ((1073741824:Int)-(l.length:Int)<f)=false:=qW (by omega);have k:Below w.heap.size w (w.alloc (.cells #[.string s,.int .i64 f,.slice (some ⟨p,a,none⟩) l.length c] 53)):=(Below.refl _ _).alloc (qK _) _
 have n:=qQ (qZ4 p a c l (w.alloc (.cells #[.string s,.int .i64 f,.slice (some ⟨p,a,none⟩) l.length c] 53)) (by omega) g (by simp;omega)
  (fun i x g=>⟨yE k m (j i x g).1,yE k m (j i x g).2.1,yE k m (j i x g).2.2⟩))
 generalize gq l=r at*;clear j g;go_enter func55,ntmps55;go_wp2_with fail;refine n.out.mono ?_;rintro e I⟨rfl,o⟩;go_wp2;go_ret;exact⟨rfl,k.trans (o.mono (by simp))⟩
theorem J8(s:Tw)(f:Int)(v:Value)(l:List jg)(w:World)(h:ou w s f v l):
  Calls prog 55 #[uv s f v] w fun e w'=>e = .returned (.int .i64 (vT s f l))/\Below w.heap.size w w':=by
 obtain⟨A,c,rfl⟩:=h.v.form;by_cases a:s.size=0∨l.length=0
 ·rw[GO a];exact J7 s f A l.length c 2 w h.s h.f h.n (qX ⟨a,rfl⟩)
 ·by_cases b:32<s.size∨8<l.length
  ·rw[GP a b];exact J7 s f A l.length c 3 w h.s h.f h.n (qY (qX ⟨a,b,rfl⟩))
  ·by_cases d:f<0∨1073741824-(l.length:Int)<f
   ·rw[GR a b d];exact J7 s f A l.length c 2 w h.s h.f h.n (qY (qY ⟨a,b,d,rfl⟩))
   ·rw[GS a b d];obtain⟨p,j,rfl,i,g⟩:=h.v.pos (by omega);exact qZ5 s f p j c l w (by omega) (by omega) (by omega) (by omega) (by omega) (by omega) h.x i g
end
section
open Go.RowKit
attribute [local go_sem] oy
def qZ6(w:World)(e:Ending)(w':World):Prop:=e = .returned (.tuple #[uv ByteArray.empty 0 (.slice none 0 0),.int .i64 10])/\Below w.heap.size w w'
def J9(s:Tw)(w:World)(e:Ending)(w':World):Prop:=∃u,e = .returned (.tuple #[uv (bgS s) (bgF s) u,.int .i64 (bgE s)])/\uO w' u (bgL s)/\Below w.heap.size w w'
theorem CW{s:Tw}{w w':World}{e:Ending}(h:kr s=false)(a:qZ6 w e w'):J9 s w e w':=by
 obtain⟨b,c,d,f⟩:=Tv h;unfold J9;rw[b,c,d,f];exact⟨_,a.1,qX ⟨rfl,_,_,rfl⟩,a.2⟩
theorem qZ7{s:Tw}(h:v8 s=false):rdB s=ByteArray.empty:=by simp[rdB,h]
theorem gJ.set{w:World}{g:Nat}{T:TypeId}{x y z:Value}(h:gJ w g T x y z)(x' a b:Value):gJ (((w.setCell ⟨g,0,none⟩ x').setCell ⟨g,1,none⟩ a).setCell ⟨g,2,none⟩ b) g T x' a b:=by
 unfold gJ at h ⊢;simp[World.setCell,Array.getElem?_modify,h]
theorem nQ{w w2:World}(h:Below w.heap.size w w2)(x y z:Value):
  Below w.heap.size w (((w2.setCell ⟨w.heap.size,0,none⟩ x).setCell ⟨w.heap.size,1,none⟩ y).setCell ⟨w.heap.size,2,none⟩ z):=((h.setCell (qK _) _).setCell (qK _) _).setCell (qK _) _
theorem lU(W:World)(b i:Nat)(v:Value):W.grownBy (W.setCell ⟨b,i,none⟩ v) (some b):=⟨rfl,rfl,rfl,by simp[World.setCell],fun k _ a=>Below.heap_setCell _ _ _ _ (fun e=>a (by rw[e]))⟩
theorem Jq{w:World}{base n size:Nat}{e:TypeId}{v:Value}{xs:List Value}(h:w.ownsRow base e size v n xs):∃A c,v = .slice A n c:=by
 rcases h.2 with⟨a,d⟩|⟨g,b,f,a,_⟩
 ·exact⟨none,0,by rw[a,d]⟩
 ·exact⟨_,b,a⟩
theorem qZ8{R:Tw}(h:8<R.size){s:Tw}(e:rdB s=R):bgM s=(R[8]'h).toNat:=by
 subst e;unfold bgM;rw[dif_pos h]
theorem qZ9{x:jg}(h:oM x):rj x:=by
 have:=pO.1 h.c;exact⟨by omega,by omega,h.b⟩
end
section
open Go.RowKit
attribute [local go_sem] oy
def Jz(M:Nat)(s:Tw)(w:World)(e:Ending)(w':World):Prop :=
 ∃v q,e = .returned (.tuple #[v,.bool q])/\Below w.heap.size w w'/\((q=false/\(∃A n c,v = .slice A n c)/\∀l,ym M s≠some (l,ByteArray.empty))∨(q=true/\∃l,ym M s=some (l,ByteArray.empty)/\w'.ownsRow w.heap.size 55 3 v l.length (l.flatMap cM)))
theorem qZq(s:Tw)(M:Nat)(w:World)(hs:s.size<=100000)(hM:M<256):
  Calls prog 231 #[.string s,.int .i64 (M:Nat)] w (Jz M s w):=by
 obtain⟨i0,hi,af,ag,ah⟩:=info_parts CG;obtain⟨m,C⟩:∃m,ym M s=m:=⟨_,rfl⟩
 have J:=qQ (fun(e:Ending) (L:World) (h:∃v q,e = .returned (.tuple #[v,.bool q])/\Below w.heap.size w L/\((q=false/\(∃A n c,v = .slice A n c)/\∀l,m≠some (l,ByteArray.empty))∨(q=true/\∃l,m=some (l,ByteArray.empty)/\L.ownsRow w.heap.size 55 3 v l.length (l.flatMap cM))))=>(show Jz M s w e L by unfold Jz;rw[C];exact h));have N:=qQ (show m=(ym (M-0) s).map (fun p=>(([]:List jg)++p.1,p.2)) by rw[<-C];simp);clear C;go_enter func231,ntmps231;go_wp2;go_loopw [0,4,10] (fun r v i wr=>∃(k:Nat) (a:Tw) (g:List jg),k<=M/\r = .string a/\i = .int .i64 k/\g.length=k/\a.size<=100000/\m=(ym (M-k) a).map (fun p=>(g++p.1,p.2))/\wr.ownsRow w.heap.size 55 3 v g.length (g.flatMap cM)/\Below w.heap.size w wr) (fun _ _ i _=>M-(intOf i).toNat)
 case atStart=>exact⟨0,s,[],qF _,rfl,rfl,rfl,hs,N.out,World.ownsRow_nil _ _ _ _,Below.refl _ _⟩
 case round =>
  obtain⟨k,a,g,hk,rfl,rfl,H,ai,C,D,B⟩:=hrel;rw[H]at D;have F:=qQ C;clear C N;obtain⟨A',c',rfl⟩:=Jq D;by_cases aj:k<M
  ·have s1:(k:Int)<(M:Int):=(by omega);have G:=qQ fun W=>qZ2 a W (by unfold maxLen;omega)
   cases y:yN a with
   | false =>
     have S:m=none:=by
      rw[F.out,show M-k=(M-k-1)+1 by omega,Tk y];rfl
     have HN:=qQ S;clear S;obtain⟨U,V,X,Y⟩:=XS y;rw[U,V,X,Y,y]at G;clear U V X Y y;go_wp2_with fail;refine(G.out _).mono ?_;rintro e Z⟨rfl,z⟩;have o:=bj B z;clear z D B;go_wp2;go_ret2;exact J.out _ _ ⟨_,_,rfl,o.alloc o.size _,qX ⟨rfl,⟨_,_,_,rfl⟩,fun l e=>by rw[HN.out]at e;cases e⟩⟩
   | true =>
     have ae:(erR a).size<=100000:=by
      rw[(sh y).2.2.2,qT];have:=bW (rdB a);have:=bW a;unfold erL;omega
     have P:m=(ym (M-(k+1)) (erR a)).map (fun p=>(g++[⟨erT a,erD a,erW a⟩]++p.1,p.2)):=by
      rw[F.out,show M-k=(M-(k+1))+1 by omega,Tj y,Option.map_map];congr 1;funext p;simp
     have aa:=qQ P;rw[y]at G;clear P F y;generalize erT a=t at*;generalize erD a=d at*;generalize erW a=b at*;generalize erR a=R2 at*;go_wp2_with fail;refine(G.out _).mono ?_;rintro e Z⟨rfl,z⟩;have o:=bj B z;have K:=Q4 D z (qK _);clear z D B
     go_wp2_with (first
      | (at_builtin;refine wpList_append_own _ rfl _ _ 51 rfl w.heap.size 55 i0 (.agg #[.string ByteArray.empty,.string ByteArray.empty,.float .f64 0]) 3 40 Tryz.underlying51 hi af ag ah rfl (by decide) _ _ _ rfl ((K.alloc _).alloc _) ⟨Z.heap.size+1,0,none⟩ 1 1 [.string t,.string d,.float .f64 b] rfl rfl ?c1 ?c2 ?c3 ?c4 ?c5 ?_))
     case c1 =>
      intro j u f
      match j,f with
      | 0,f=>simp at f;subst f;simp[Addr.add]
      | 1,f=>simp at f;subst f;simp[Addr.add]
      | 2,f=>simp at f;subst f;simp[Addr.add]
     case c2 =>
      intro u T;simp at T;rcases T with rfl|rfl|rfl<;>rfl
     case c3=>unfold maxLen;omega
     case c4=>omega
     case c5=>have:=o.size;simp;omega
     ·intro v' w4 ad R _;have ac:=((o.alloc o.size (.cells #[.string t,.string d,.float .f64 b] 55)).alloc (by have:=o.size;simp;omega) (.cells #[.string t,.string d,.float .f64 b] 55)).grown R (by have:=o.size;simp;omega) (fun q e=>(K.lt q e).1);clear R K o;go_wp2;go_roundw
      case rel =>
       refine⟨k+1,R2,g++[⟨t,d,b⟩],by omega,rfl,by go_num,by rw[qI,H];rfl,ae,aa.out, ?_,ac⟩;rw[List.flatMap_append,qI,H];exact ad
      case measure=>simp[intOf];omega
  ·obtain rfl:k=M:=(by omega);have s1:¬(k:Int)<(k:Int):=(by omega);have Q:m=some (g,a):=(by rw[F.out,Nat.sub_self];simp[ym]);have O:=qQ Q;clear F Q;by_cases I:a.size=0
   ·have ab:a=ByteArray.empty:=ByteArray.ext (Array.eq_empty_of_size_eq_zero I);subst ab;go_wp2;go_ret2;exact J.out _ _ ⟨_,_,rfl,B,qY ⟨rfl,g,O.out,by rw[H];exact D⟩⟩
   ·have t1:a.toList.isEmpty=false:=by
     rw[List.isEmpty_eq_false_iff,Lib.toList_data];intro e;exact I (by rw[Lib.size_eq,e];rfl)
    have HR:=qQ I;clear I;go_wp2;go_ret2;exact J.out _ _ ⟨_,_,rfl,B,qX ⟨rfl,⟨_,_,_,rfl⟩,fun l e=>by rw[O.out]at e;cases e;exact HR.out rfl⟩⟩
theorem qZx(R:Tw)(h:8<R.size){s:Tw}(e:rdB s=R):jR (R.extract 8 9)=bgM s:=by
 rw[qZ8 h e]
 have a:(R.extract 8 9).data.toList=[R[8]]:=by
  have b:R.data.toList.length=R.size:=fT _;rw[ByteArray.data_extract,Array.toList_extract,List.extract,List.drop_eq_getElem_cons (by omega)];simp;rfl
 unfold jR;rw[a];simp[un]
theorem qZz(R:Tw):jR (R.extract 0 8)=jR R:=by
 unfold jR;have e:(R.extract 0 8).data.toList=R.data.toList.take 8:=by simp
 rw[e,List.take_take,Nat.min_self]
theorem qZj{w:World}{base B n size:Nat}{e:TypeId}{v:Value}{xs:List Value}(h:w.ownsRow base e size v n xs)(d:B<=base):w.ownsRow B e size v n xs:=by
 refine⟨h.1, ?_⟩;rcases h.2 with c|⟨g,a,b,i,f,r⟩
 ·exact qX c
 ·exact qY ⟨g,a,b,i,qO d f,r⟩
def bgN(s:Tw):Nat:=jR (rdB s)
def CA(s:Tw)(w:World)(e:Ending)(w':World):Prop :=
 ∃S F v q,e = .returned (.tuple #[uv S F v,.bool q])/\(∃A n c,v = .slice A n c)/\Below w.heap.size w w'/\(q=false->kr s=false)/\(q=true->cF s=true/\S=rdA s/\F=(jR (rdB s):Nat)/\∃l,dO s=some (l,ByteArray.empty)/\w'.ownsRow w.heap.size 55 3 v l.length (l.flatMap cM))
theorem CB{s:Tw}{w w':World}{e:Ending}(h:kr s=false)(b:e = .returned (.tuple #[uv ByteArray.empty 0 (.slice none 0 0),.bool false]))(a:Below w.heap.size w w'):CA s w e w' :=
 ⟨_,_,_,_,b,⟨_,_,_,rfl⟩,a,fun _=>h,fun h=>by cases h⟩
theorem qZk(s:Tw)(w:World)(hs:s.size<=100000):
  Calls prog 198 #[.string s] w (CA s w):=by
 have z:=qQ fun W=>mF s W (by unfold maxLen;omega)
 have af:=bW s;have D:Below w.heap.size w (w.alloc (.cells #[.string ByteArray.empty,.int .i64 0,.slice none 0 0] 53)):=(Below.refl _ _).alloc (qK _) _;have p:=gJ.new w 53 (.string ByteArray.empty) (.int .i64 0) (.slice none 0 0);have N:∀(t:Tw) (W:World),t.size<=100->Calls prog 84 #[.string t] W fun e w'=>e = .returned (.int .u64 (jR t:Nat))/\w'=W:=fun t W h=>(cA t W (by unfold maxLen;omega)).mono fun e w' h=>⟨h.1,h.2.symm⟩
 by_cases h9:(rdB s).size<9
 ·have H:=qQ (fun e w'=>CB (s:=s) (w:=w) (w':=w') (e:=e) (G9 (by unfold cF;rw[qW (by omega)];simp)));have x1:decide (((rdB s).size:Int)<9)=true:=qA (by omega);generalize rdB s=R at*;generalize rdA s=A at*;generalize v8 s=q at*;clear N hs;go_enter func198,ntmps198;go_wp2_with fail;refine(z.out _).mono ?_;rintro e o⟨rfl,d⟩;have g:=p.below d;have F:Below w.heap.size w o:=D.trans (d.mono (by simp));obtain⟨i,j,k,V,X,Y,_⟩:=g.facts;clear p g d D;go_wp2;exact bodyPost_ret (v:=.tuple #[.agg #[.string ByteArray.empty,.int .i64 0,.slice none 0 0],.bool false]) (by simp[results,Tryz.results198,go_sem,i,j,k];rfl) rfl (H.out _ _ rfl (nQ F _ _ _))
 ·have x1:decide (((rdB s).size:Int)<9)=false:=qW (by omega);have x3:(8:Int)<((rdB s).size:Int):=by omega
  have x4:(9:Int)<=((rdB s).size:Int):=by omega
  have J:=qZz (rdB s);have K:=qZx (rdB s) (by omega) (s:=s) rfl;have hg:=pW (rdB s);have aa:=G7 s;have ag:((rdB s).extract 0 8).size<=100:=by rw[qT];omega
  have ah:((rdB s).extract 8 9).size<=100:=by rw[qT];omega
  have ac:((rdB s).extract 9 (rdB s).size).size<=100000:=by rw[qT];omega
  have u:=qQ (show dO s=ym (bgM s) ((rdB s).extract 9 (rdB s).size) from rfl);have I:=qQ fun W=>qZq ((rdB s).extract 9 (rdB s).size) (bgM s) W ac aa
  have T:=qQ N
  have ab:v8 s=true:=by
   cases h:v8 s with
   | true=>rfl
   | false=>rw[qZ7 h]at x4;exact absurd x4 (by decide)
  have y:=qQ (show jR (rdB s)<=1073741824->cF s=true from fun h=>by unfold cF;rw[ab,qA (by omega:9<=(rdB s).size),qA h];rfl);have C:=qQ (show 1073741824<jR (rdB s)->cF s=false from fun h=>by unfold cF;rw[qW (by omega:¬jR (rdB s)<=1073741824)];simp);have HA:=qQ (qU (rfl:rdA s=rdA s) (rfl:jR (rdB s)=jR (rdB s)));clear N hs h9 af ac ab;obtain⟨A,L⟩:∃A,rdA s=A:=⟨_,rfl⟩
  obtain⟨n,f⟩:∃n,jR (rdB s)=n:=⟨_,rfl⟩
  obtain⟨M,hM⟩:∃M,bgM s=M:=⟨_,rfl⟩
  rw[hM]at u I aa K;rw[f]at y C hg J;rw[L]at z;have G:=qQ (qU L (show bgN s=n from f));clear L f hM HA;generalize rdB s=R at*;generalize v8 s=q at*;go_enter func198,ntmps198;go_wp2_with fail;refine(z.out _).mono ?_;rintro e o⟨rfl,d⟩;have g:=p.below d;have F:Below w.heap.size w o:=D.trans (d.mono (by simp));clear p d D;go_wp2_with fail;go_quiet ((go_at_call 84;exact Calls.quiet_of_same ((T.out _ _ (by rw[qT];omega)))));rename_i nq _;rw[J,K];have r:gJ (o.drewN nq) w.heap.size 53 (.string ByteArray.empty) (.int .i64 0) (.slice none 0 0):=g;have P:=vo F nq;generalize o.drewN nq=w2 at*;clear g F T z ag ah J K x1;by_cases f:1073741824<n
  ·have H:=qQ (fun e w'=>CB (s:=s) (w:=w) (w':=w') (e:=e) (G9 (C.out f)));have x2:decide ((1073741824:Int)<(n:Int))=true:=qA (by omega);obtain⟨i,j,k,V,X,Y,_⟩:=r.facts;clear f C y G u;go_wp2;exact bodyPost_ret (v:=.tuple #[.agg #[.string ByteArray.empty,.int .i64 0,.slice none 0 0],.bool false]) (by simp[results,Tryz.results198,go_sem,i,j,k];rfl) rfl (H.out _ _ rfl (nQ P _ _ _))
  ·have x2:decide ((1073741824:Int)<(n:Int))=false:=qW (by omega);have hH:=y.out (by omega);have hm:IntKind.i64.wrap (M:Int)=(M:Int):=(by rw[IntKind.wrap_i64];omega);have am:IntKind.i64.wrap (n:Int)=(n:Int):=(by rw[IntKind.wrap_i64];omega);have ad:=qQ hH;have al:=r.lt;clear f C y hH;generalize ak:R.extract 9 R.size=aj at*;go_wp2_with fail;refine(I.out _).mono ?_;rintro e w3⟨v,q',rfl,O,S⟩;have E3:=r.below O;have ae:=bj P O
   have ai:∃A n c,v = .slice A n c:=by
    rcases S with⟨_,h,_⟩|⟨_,l,_,h⟩
    ·exact h
    ·obtain⟨a,c,h⟩:=Jq h;exact⟨_,_,_,h⟩
   obtain⟨i,j,k,V,X,Y,_⟩:=E3.facts;clear r O P I;obtain⟨B,m,c,rfl⟩:=ai;have U:=qQ S;clear S;go_wp2;refine bodyPost_ret (v:=.tuple #[.agg #[.string A,.int .i64 (n:Nat),.slice B m c],.bool q']) (by simp[results,Tryz.results198,go_sem,i,j,k]) rfl ⟨A,(n:Nat),.slice B m c,q',rfl,⟨_,_,_,rfl⟩,nQ ae _ _ _, ?_, ?_⟩
   ·intro h;rcases U.out with⟨_,_,b⟩|⟨b,_⟩
    ·cases hb:kr s with
     | false=>rfl
     | true=>exact absurd (u.out.symm.trans (oN hb).2.2.2.2.1) (b _)
    ·rw[h]at b;cases b
   ·intro h;rcases U.out with⟨b,_⟩|⟨_,l,b,Z⟩
    ·rw[h]at b;cases b
    ·have Q:(Value.slice B m c).ownBlock≠some w.heap.size:=fun e=>by have:=(Z.lt _ e).1;omega
     refine⟨ad.out,G.out.1.symm,by rw[<-G.out.2];rfl,l,u.out.trans b, ?_⟩;exact((qZj Z (by omega)).kept (lU _ w.heap.size 0 _) (.inr Q)).kept (lU _ w.heap.size 1 _) (.inr Q) |>.kept (lU _ w.heap.size 2 _) (.inr Q)
theorem qZv(s:Tw)(w:World)(hs:s.size<=100000):Calls prog 157 #[.string s] w (J9 s w):=by
 have aa:Below w.heap.size w (w.alloc (.cells #[.string ByteArray.empty,.int .i64 0,.slice none 0 0] 53)):=(Below.refl _ _).alloc (qK _) _;have E0:=gJ.new w 53 (.string ByteArray.empty) (.int .i64 0) (.slice none 0 0);have HR:=qQ (qZk s (w.alloc (.cells #[.string ByteArray.empty,.int .i64 0,.slice none 0 0] 53)) hs);have HA:=qQ (qO (pP s) hs);go_enter func157,ntmps157;go_wp2_with fail;refine HR.out.mono ?_;rintro e w1⟨S,F,v,q,rfl,⟨B,m,c,rfl⟩,U,X,Z⟩;have y:=E0.below U;have V:Below w.heap.size w w1:=aa.trans (U.mono (by simp));clear E0 U aa HR;obtain⟨p,t,u,D,G,H,_⟩:=y.facts;have a:=y.set (.string S) (.int .i64 F) (.slice B m c);have k:=nQ V (.string S) (.int .i64 F) (.slice B m c);unfold uv;cases q with
 | false =>
   have L:=qQ fun P e=>CW (w:=w) (w':=P) (e:=e) (X rfl)
   obtain⟨j0,j1,j2,Q,R,T,_⟩:=a.facts;obtain⟨c0,c1,c2,_⟩:=(a.set (.string ⟨#[]⟩) (.int .i64 0) (.slice none 0 0)).facts;clear X Z y a V;go_wp2;exact bodyPost_ret (v:=.tuple #[.agg #[.string ByteArray.empty,.int .i64 0,.slice none 0 0],.int .i64 10]) (by simp[results,Tryz.results157,go_sem,c0,c1,c2];rfl) rfl (L.out _ _ ⟨rfl,nQ k _ _ _⟩)
 | true =>
   obtain⟨j,rfl,rfl,l,o,I⟩:=Z rfl;obtain⟨_,_,e1⟩:=Jq I;cases e1;have ab:∀g,w.heap.size+1<=g->(Value.slice B l.length c).ownBlock≠some w.heap.size:=fun g hg e=>by have:=(I.lt _ e).1;simp at this;omega
   have f:=ab (w.heap.size+1) (qK _);clear ab;have Y:=((I.kept (lU _ w.heap.size 0 (.string (rdA s))) (.inr f)).kept (lU _ w.heap.size 1 (.int .i64 (jR (rdB s):Nat))) (.inr f)).kept (lU _ w.heap.size 2 (.slice B l.length c)) (.inr f);obtain⟨_,af,ad⟩:=G5 o;have ae:=G7 s
   have hF:jR (rdB s)<=1073741824:=by
    unfold cF at j;simp only[Bool.and_eq_true,decide_eq_true_eq]at j;exact j.2
   have i:=qQ (J8 (rdA s) (jR (rdB s):Nat) (.slice B l.length c) l _ ⟨HA.out,WalkArith.wf_i64 (by omega),uO.xL Y,by omega,fun x hx=>qZ9 (ad x hx)⟩);have N:=qQ fun h=>oN (G8 j o h)
   have O:=qQ fun h=>Ty o (qY h)
   have M:=qQ Y;have K:=qQ o;clear X Z I Y af ad ae hF j HA o V y;obtain⟨j0,j1,j2,Q,R,T,_⟩:=a.facts;unfold uv at i;generalize hA:rdA s=A at*;generalize hn:jR (rdB s)=n at*;by_cases d:vT A (n:Nat) l=0
   ·obtain⟨_,y1,y2,y3,J,_⟩:=N.out d;rw[K.out]at J;simp only[Option.some.injEq,Prod.mk.injEq]at J;have C:=qQ (qU y1 (qU y2 (qU y3 J.1)));rw[d]at i;clear N O d y1 y2 y3 J K hA hn;go_wp2_with fail;refine i.out.mono ?_;rintro e w2⟨rfl,b⟩;have z:=a.below b;have W:=bj k b;have HI:=qQ (Q4 M.out b (qK _));clear b a k i M p t u D G H j0 j1 j2 Q R T;obtain⟨p,t,u,D,G,H,_⟩:=z.facts;go_wp2;refine bodyPost_ret (v:=.tuple #[.agg #[.string A,.int .i64 (n:Nat),.slice B l.length c],.int .i64 0]) (by simp[results,Tryz.results157,go_sem,p,t,u]) rfl ⟨.slice B l.length c, ?_, ?_,nQ W _ _ _⟩
    ·rw[C.out.1,C.out.2.1,C.out.2.2.1];rfl
    ·rw[<-C.out.2.2.2];exact uO.xL (((HI.out.kept (lU _ w.heap.size 0 _) (.inr f)).kept (lU _ w.heap.size 1 _) (.inr f)).kept (lU _ w.heap.size 2 _) (.inr f))
   ·have ac:=O.out d;have L:=qQ fun P e=>CW (w:=w) (w':=P) (e:=e) ac
    have t3:(vT A (n:Nat) l != 0)=true:=(by simp;exact d);have t4:(vT A (n:Nat) l==0)=false:=(by simp;exact d);clear N O d K hA hn ac M f;generalize vT A (n:Nat) l=r at*;go_wp2_with fail;refine i.out.mono ?_;rintro e w2⟨rfl,b⟩;have z:=a.below b;have W:=bj k b;clear b a k i p t u D G H j0 j1 j2 Q R T;obtain⟨p,t,u,D,G,H,_⟩:=z.facts;obtain⟨c0,c1,c2,_⟩:=(z.set (.string ⟨#[]⟩) (.int .i64 0) (.slice none 0 0)).facts;go_wp2;exact bodyPost_ret (v:=.tuple #[.agg #[.string ByteArray.empty,.int .i64 0,.slice none 0 0],.int .i64 10]) (by simp[results,Tryz.results157,go_sem,c0,c1,c2];rfl) rfl (L.out _ _ ⟨rfl,nQ W _ _ _⟩)
end
end Go.Proofs.YtokbfellcadkpaaGreat

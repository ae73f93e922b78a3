import Derived.Test.YtokbfellcadkpaaGreatPp06
import Derived.Lib.SlicesCompact
import Derived.Deep.AppendSrc
set_option linter.unusedVariables false
set_option maxRecDepth 100000
set_option maxHeartbeats 9000000
namespace Go.Proofs.YtokbfellcadkpaaGreat
open Tryz
section
def yi(l:List jJ):List Nat:=Lib.compactUpTo (l.map jJ.h).toArray (l.map jJ.h).toArray.size
def tm(l:List jJ)(p:Nat):Tw:=fq (bs (dG (yi l) (p:Nat) (480*(cg (yi l).length (p:Nat):Nat):Int))) (p:Nat)
def gP(l:List jJ)(r:Nat)(t:Tw):Prop:=∃p,pD r p/\t=tm l p
theorem Ui(l:List jJ):(yi l).length<=l.length:=by
 unfold yi Lib.compactUpTo;rw[qj];refine qO (List.length_filter_le _ _) ?_;rw[List.length_range,List.size_toArray,qj];exact qK _
theorem SR{l:List jJ}(f:∀x∈l,kI x):∀z∈yi l,z<18446744073709551616:=by
 intro z b;unfold yi Lib.compactUpTo at b;obtain⟨j,d,rfl⟩:=qN.1 b;have a:=List.mem_range.1 (List.mem_filter.1 d).1
 have e:(l.map jJ.h).toArray[j]! = (l.map jJ.h)[j]'(by simpa using a):=by
  rw[getElem!_pos _ j a];simp
 rw[e];obtain⟨x,g,c⟩:=qN.1 (List.getElem_mem (l:=l.map jJ.h) (n:=j) (by simpa using a));rw[<-c];exact(f x g).h
theorem Uo{r p:Nat}(h:pD r p):1<=p/\p<=16:=by
 unfold pD at h;split at h
 ·omega
 ·exact⟨h.1,h.2.1⟩
theorem Uw{n:Nat}{k:Int}(b:n<=10000):1<=cg (n:Nat) k/\480*cg (n:Nat) k<=24*n+960:=by
 have a:=Kp k;have e:cN (n:Nat)=n:=by unfold cN;split;omega;split<;>omega
 unfold cg;rw[e];have c:n*cK k<=n*16:=Nat.mul_le_mul_left _ a;unfold nI sP;generalize n*cK k=q at*;split<;>omega
theorem rG{l:List jJ}{r:Nat}{t:Tw}(f:l.length<=10000)(h:gP l r t):t.size<=256+4*l.length:=by
 obtain⟨p,b,rfl⟩:=h;obtain⟨g,i⟩:=Uo b;have d:=Ui l;have c:=Uw (n:=(yi l).length) (k:=(p:Nat)) (by omega);unfold tm;generalize (yi l).length=m at*;by_cases a:gD (bs (dG (yi l) (p:Nat) (480*(cg (m:Nat) (p:Nat):Nat):Int))).size (p:Nat)=true
 ·rw[Mp a,show(480*(cg (m:Nat) (p:Nat):Nat):Int)=((8*(60*cg (m:Nat) (p:Nat)):Nat):Int) by omega,Mr _ _ _ (by omega) (by omega)];omega
 ·rw[Vc (Bool.eq_false_iff.2 a)];show 0<=_;omega
end
section
open Go.RowKit Go.Shelf
attribute [local go_sem ↓] Go.wp_at_zero Go.wp_at_succ
theorem SS{w:World}{base g:Nat}{F:List Nat}{l:List jJ}{x:jJ}(h:vZ w base g F l)(t:kI x)(hn:l.length<=100000)(ah:x ∉ l):
  Calls prog 138 #[mtp g,.int .i64 (kD l x:Nat),kS x] w (bl base g F w (.tuple #[]) (jt l x)):=by
 have HT:=qQ h;obtain⟨v,G,i,O,P,Q,h6,h7⟩:=h;obtain⟨A,c,rfl,aq,au,-,-⟩:=yw i;have T:=pr l x;obtain⟨n,r⟩:∃n,n=l.length:=⟨_,rfl⟩
 obtain⟨k,S⟩:∃k,k=kD l x:=⟨_,rfl⟩
 have Z:=qQ (Pt ah);rw[<-S]at T Z ⊢;rw[<-r]at T aq G i O hn;have af:ju w (.slice A n c) l:=by rw[r]at i ⊢;exact jE.xQ i
 obtain⟨rt,rs,rk⟩:=RN i r T;have f:yj (w.alloc (.cells #[.int .u64 (x.h:Nat),.int .i64 x.v,.int .i64 x.p] 63)) w.heap.size x.h x.v x.p:=jY.new _ _ _;have o:jG [] w (w.alloc (.cells #[.int .u64 (x.h:Nat),.int .i64 x.v,.int .i64 x.p] 63)):=(jG.refl [] w).alloc _;obtain⟨B,hB⟩:∃B,w.heap.size=B:=⟨_,rfl⟩
 rw[hB]at f;obtain⟨b,ar⟩:∃b,w.alloc (.cells #[.int .u64 (x.h:Nat),.int .i64 x.v,.int .i64 x.p] 63)=b:=⟨_,rfl⟩
 rw[ar]at f o;have ag:ju b (.slice A n c) l:=af.below (B:=w.heap.size) (o.below (qK _) (fun x t=>by cases t)) (qK _);have C:jY b g 161 #[mtp g,.slice A n c]:=G.qe o (by simp);obtain⟨A2,c2,q2,V⟩:=ZO ag (k:=k) (by omega);have q1:=RO (A:=A) (n:=n) rk;have q3:=RP (A:=A) (n:=n) rk rs;rw[<-r]at q2 V;have HP:=qQ V
 have HS:Hid (∀W,Below b.heap.size b W->Below b.heap.size b W/\W.cell? ⟨g,1,none⟩=some (.slice A n c)/\W.cell? ⟨B,0,none⟩=some (.int .u64 (x.h:Nat))/\W.cell? ⟨B,1,none⟩=some (.int .i64 x.v)/\W.cell? ⟨B,2,none⟩=some (.int .i64 x.p)):=qQ fun W q =>
  ⟨q,(q.cell (p:=⟨g,1,none⟩) C.lt).trans (C.cell 1),(q.cell (p:=⟨B,0,none⟩) f.lt).trans (f.cell 0),(q.cell (p:=⟨B,1,none⟩) f.lt).trans (f.cell 1),(q.cell (p:=⟨B,2,none⟩) f.lt).trans (f.cell 2)⟩
 have X:Hid (∀W,Below b.heap.size b W->b.heap.size<=W.heap.size):=qQ fun W q=>q.size
 have Y:Hid ((l.drop k).length<=100000):=qQ (by rw[List.length_drop,<-r];omega)
 have aj:Hid (∀d j u,Below b.heap.size b d->d.grownBy j (Value.slice A n c).ownBlock->jE j base u (l.take k++([x]++l.drop k))->(u.ownBlock=(Value.slice A n c).ownBlock∨u.ownBlock=some d.heap.size)->bl base g F w (.tuple #[]) (jt l x) (.returned (.tuple #[])) (j.setCell ⟨g,1,none⟩ u)) :=
  qQ fun d j u a1 a2 a3 a4=>RS HT.out t rfl i O o a1 a2 (by rw[Z.out];exact a3) a4
 have HG:Hid (∀d,Below b.heap.size b d->jY d g 161 #[mtp g,.slice A n c]/\jE d base (.slice A k c) (l.take k)/\base<=d.heap.size):=qQ fun d a=>by
  have ae:Below w.heap.size w d:=(o.below (qK _) (fun x t=>by cases t)).trans (a.mono o.size);exact⟨C.qe (jG.qn a) (by simp),jE.below rt ae (qK _),qO (Q g P).1 (qO (Nat.le_of_lt (Q g P).2) ae.size)⟩
 have am:Hid ((Value.slice A k c).ownBlock=(Value.slice A n c).ownBlock):=qQ (by cases A<;>rfl);have al:Hid ((Value.slice A n c).ownBlock≠some g):=qQ (vR i G Zb);have an:Hid ((l.take k).length=k):=qQ (by rw[qS];omega);obtain⟨-,s0,s1,s2,s3⟩:=HS.out b (Below.refl _ _);have av:∀H:World,H=b->H=b:=fun _ h=>h
 clear G i O P Q h6 h7 af rt rs o ag C f V HT ah;have HN:=qQ r;have HK:=qQ S;clear r S;generalize jt l x=R at*;go_enter func138,ntmps138;go_wp2_with fail
 go_region_held_law (fun W=>Below b.heap.size b W/\W.cell? ⟨g,1,none⟩=some (.slice A n c)/\W.cell? ⟨B,0,none⟩=some (.int .u64 (x.h:Nat))/\W.cell? ⟨B,1,none⟩=some (.int .i64 x.v)/\W.cell? ⟨B,2,none⟩=some (.int .i64 x.p))
  (first | (with_reducible assumption) | ((with_reducible refine HS.out _ ?_);(repeat' (first | (with_reducible assumption) | (with_reducible exact Below.refl _ _) | (with_reducible refine Below.drew ?_) | (with_reducible refine bd ?_ _) | exact And.left (by with_reducible assumption)));done) | fail)
  (first
  | (refine RM (A:=A) (m:=[x]) (base:=b.heap.size) (by rfl) _ _ (by rfl) (by rfl) (by rfl) (oY _ x) (by simp) (by simp) (X.out _ (by first | (with_reducible exact And.left (by with_reducible assumption)) | (refine bd ?_ _;exact And.left (by with_reducible assumption)))) ?_;intro v1 V1 ai ac aa;have K:∀z,v1.ownBlock=some z->b.heap.size<=z:=rZ (by first | (with_reducible exact And.left (by with_reducible assumption)) | (refine bd ?_ _;exact And.left (by with_reducible assumption))) tH aa;have s:Below b.heap.size b V1:=oB (by first | (with_reducible exact And.left (by with_reducible assumption)) | (refine bd ?_ _;exact And.left (by with_reducible assumption))) ac tH)
  | (refine oA (l:=[x]) (m:=l.drop k) (by rfl) _ _ (by rfl) (by rfl) (by rfl) ai (HP.out _ _ (qK _) s) (by have:=Y.out;simp only[List.length_cons,List.length_nil];omega) (X.out _ s) ?_;intro v2 d U ad ab;have ao:∀z,v2.ownBlock=some z->b.heap.size<=z:=rZ s K ab;have I:Below b.heap.size b d:=oB s ad K)
  | fail)
 all_goals
  clear ac aa K s ai ad ab ao;obtain⟨D,rT,ap⟩:=HG.out d I;obtain⟨A3,c3,j,e1,e2,y,J⟩:=oU rT (jE.xQ U) (by have:=Y.out;have:=an.out;simp only[List.length_append,List.length_cons,List.length_nil];omega) ap 37;rw[am.out]at y J;have L:jY j g 161 #[mtp g,.slice A n c]:=(y.block g D.lt (fun e=>al.out e.symm)).trans D;have ak:=qQ (aj.out d j _ I y e2 J);have k1:=L.cell 1;have f1:=L.frozen 1;have k2:=D.cell 1;have HE:=qQ e1;obtain⟨A4,c4,rfl,-⟩:=jE.shape U;clear e1 e2 y J L D rT U I;generalize (l.take k).length+([x]++l.drop k).length=N at*;generalize ([x]++l.drop k).length=M at*;go_wp2_with (first | (at_builtin;refine yI rfl _ _ rfl rfl rfl HE.out ?_) | fail);go_end0;exact ak.out
end
section
open Go.RowKit Go.Shelf
attribute [local go_sem ↓] Go.wp_at_zero Go.wp_at_succ
theorem bl.since{w W:World}{base g:Nat}{F:List Nat}{r:Value}{l:List jJ}{e:Ending}{w':World}(h:bl base g F W r l e w')(b:jG [] w W):bl base g F w r l e w':=by
 obtain⟨c,d,f,i,j⟩:=h;refine⟨c,d,f,fun x a=>?_,(b.more (G:=F) (fun x a=>by cases a)).trans j (fun x a=>qX a)⟩;rcases i x a with k|k
 ·exact qX k
 ·exact qY (qO b.size k)
theorem bl.same{w W:World}{base g:Nat}{F:List Nat}{r:Value}{l:List jJ}(h:vZ W base g F l)(b:jG [] w W):bl base g F w r l (.returned r) W :=
 ⟨F,rfl,h,fun x a=>qX a,b.more (fun x a=>by cases a)⟩
theorem S1{w:World}{base g:Nat}{F:List Nat}{l:List jJ}{x:jJ}(h:vZ w base g F l)(j:kI x)(hn:l.length<=100000):
  Calls prog 71 #[mtp g,kS x] w (bl base g F w (.bool (!decide (x∈l))) (jt l x)):=by
 have HT:=qQ h;obtain⟨A,c,c0,c1,-,al,hg⟩:=h.shape;have V:jh l:=by obtain⟨v,h1,h2,h3,h4,h5,h6,h7⟩:=h;exact h6
 have aj:=jE.xQ al;have G:jG [] w ((w.alloc (.cells #[mtp g] 87)).alloc (.cells #[.int .u64 (x.h:Nat),.int .i64 x.v,.int .i64 x.p] 63)):=((jG.refl [] w).alloc _).alloc _;have O:jY ((w.alloc (.cells #[mtp g] 87)).alloc (.cells #[.int .u64 (x.h:Nat),.int .i64 x.v,.int .i64 x.p] 63)) w.heap.size 87 #[mtp g]:=jY.alloc (jY.new _ _ _) _
 have P:yj ((w.alloc (.cells #[mtp g] 87)).alloc (.cells #[.int .u64 (x.h:Nat),.int .i64 x.v,.int .i64 x.p] 63)) (w.heap.size+1) x.h x.v x.p:=by
  have:=jY.new (w.alloc (.cells #[mtp g] 87)) 63 #[.int .u64 (x.h:Nat),.int .i64 x.v,.int .i64 x.p];rw[show(w.alloc (.cells #[mtp g] 87)).heap.size=w.heap.size+1 by simp]at this;exact this
 obtain⟨B,hB⟩:∃B,w.heap.size=B:=⟨_,rfl⟩
 rw[hB]at O P;obtain⟨d,ap⟩:∃d,(w.alloc (.cells #[mtp g] 87)).alloc (.cells #[.int .u64 (x.h:Nat),.int .i64 x.v,.int .i64 x.p] 63)=d:=⟨_,rfl⟩
 rw[ap]at O P G;have ad:Below w.heap.size w d:=G.below (qK _) (fun x j=>by cases j);have U:ju d (.slice A l.length c) l:=aj.below ad (qK _);have q:∀ {p:Addr} {u:Value},w.cell? p=some u->d.cell? p=some u:=fun {p u} k=>(ad.cell (p:=p) (World.block_lt_of_cell? w _ k)).trans k
 have d0:=q c0;have C:=q c1;have T:=O.cell 0;obtain⟨X,Y,Z,-,-,-⟩:=P.facts;have hK:=pr l x;obtain⟨n,I⟩:∃n,n=l.length:=⟨_,rfl⟩
 obtain⟨K,D⟩:∃K,K=kD l x:=⟨_,rfl⟩
 have HF:=qQ U.form;have Q:=qQ U;rw[<-I]at c1 C U hn hK Q;rw[<-D]at hK;have an:Enters prog 136:=RT;have au:∀(fn:Fn) (first ah:Array Value) (w:World),(Instr.makeFunc fn first ah).run prog w = .ok (.func fn first ah) w:=fun _ _ _ _=>rfl
 have ab:Hid (Calls prog 135 #[.int .i64 (n:Nat),.func (.func 136) #[] #[mtp B,mtp (B+1)]] d (KE K d)):=qQ (by
  refine FW _ _ _ n K d (by omega) hK an (fun i W hi H=>?_);obtain⟨y,m⟩:∃y,l[i]? = some y:=⟨_,qC (by rw[<-I];exact hi)⟩
  obtain⟨b,off,rfl,-,-,s,t,z⟩:=oG Q.out m;have hA:mv d B (B+1) g b (off+i*3) (.slice (some ⟨b,off,none⟩) n c) x y:=⟨T,C,X,Y,Z,s,t,z⟩
  have:=R7 B (B+1) g b off n c i x y W hi (by omega) (hA.below H);rw[Pa V m,<-D]at this;exact this)
 have ae:=qQ (Zu d0)
 have af:Hid (∀W,Below d.heap.size d W->x ∉ l->Calls prog 138 #[mtp g,.int .i64 (K:Nat),kS x] W (bl base g F W (.tuple #[]) (jt l x))):=qQ fun W H ao=>by
  have hA:vZ W base g F l:=(HT.out.qe G (fun _ _=>by simp)).below H;have:=SS hA j (by rw[<-I];exact hn) ao;rw[<-D]at this;exact this
 have ac:Hid (∀W,Below d.heap.size d W->W.cell? ⟨B,0,none⟩=some (mtp g)/\W.cell? ⟨g,1,none⟩=some (.slice A n c)/\W.cell? ⟨B+1,0,none⟩=some (.int .u64 (x.h:Nat))/\W.cell? ⟨B+1,1,none⟩=some (.int .i64 x.v)/\W.cell? ⟨B+1,2,none⟩=some (.int .i64 x.p)):=qQ fun W H=>by
  have q:∀ {p:Addr} {u:Value},d.cell? p=some u->W.cell? p=some u:=fun {p u} k=>(H.cell (p:=p) (World.block_lt_of_cell? d _ k)).trans k
  exact⟨q T,q C,q X,q Y,q Z⟩
 have aa:=qQ (show l[K]? = some x↔x∈l by rw[D];exact Pr V);have am:=qQ (show x∈l->jt l x=l from Ps V);have S:Hid (jG [] w d):=qQ G;have HX:=qQ j;have ag:=qQ I;clear h V aj G O P ad U c0 c1 q j al I D;by_cases ak:K<n
 ·obtain⟨y,m⟩:∃y,l[K]? = some y:=⟨_,qC (by rw[<-ag.out];exact ak)⟩
  obtain⟨b,off,rfl,-,o,s,t,z⟩:=oG Q.out m;have ai:=fun W=>ZH y x W
  have t1:(K:Int)<(n:Int):=by omega
  by_cases r:y=x
  ·have f:x∈l:=(by rw[r]at m;exact aa.out.1 m);rw[qA r]at ai;rw[qA f,am.out f];have ar:=qQ r;have aq:=qQ o;clear f r m;go_enter func71,ntmps71;go_wp2_with fail;refine ae.out.mono ?_;rintro e w'⟨rfl,rfl⟩;go_wp2_with fail;refine ab.out.mono ?_;rintro e J⟨rfl,a⟩;obtain⟨z0,z1,L,M,N⟩:=ac.out J a;have u0:=(a.cell (p:=⟨b,off+K*3,none⟩) o).trans s;have u1:=(a.cell (p:=⟨b,off+K*3+1,none⟩) o).trans t;have u2:=(a.cell (p:=⟨b,off+K*3+2,none⟩) o).trans z;clear s t z d0 C T X Y Z;obtain⟨xh,xv,xp⟩:=x;obtain⟨yh,yv,yp⟩:=y;simp only at u0 u1 u2 L M N;go_wp2;go_quiet (fail);go_wp2;go_ret;exact bl.same (((HT.out.qe S.out (fun _ _=>by simp)).below a).drewN _) ((S.out.trans (jG.qn a) (fun x j=>by cases j)).drewN _)
  ·have f:x ∉ l:=fun k=>r (by have:=aa.out.2 k;rw[m]at this;exact qg this)
   rw[qW r]at ai;rw[qW f];have HM:=qQ f;clear f r m;go_enter func71,ntmps71;go_wp2_with fail;refine ae.out.mono ?_;rintro e w'⟨rfl,rfl⟩;go_wp2_with fail;refine ab.out.mono ?_;rintro e J⟨rfl,a⟩;obtain⟨z0,z1,L,M,N⟩:=ac.out J a;have u0:=(a.cell (p:=⟨b,off+K*3,none⟩) o).trans s;have u1:=(a.cell (p:=⟨b,off+K*3+1,none⟩) o).trans t;have u2:=(a.cell (p:=⟨b,off+K*3+2,none⟩) o).trans z;clear s t z d0 C T X Y Z;generalize jt l x=R at*;obtain⟨xh,xv,xp⟩:=x;obtain⟨yh,yv,yp⟩:=y;simp only at u0 u1 u2 L M N;go_wp2;go_quiet (fail);go_wp2_with fail;refine(af.out _ (vo a _) HM.out).mono ?_;rintro e w4⟨F',rfl,g2,g3,g4⟩;go_wp2;go_ret;exact bl.since ⟨F',rfl,g2,g3,g4⟩ ((S.out.trans (jG.qn a) (fun x j=>by cases j)).drewN _)
 ·have f:x ∉ l:=fun k=>by
   have h2:=aa.out.2 k;rw[List.getElem?_eq_none (by rw[<-ag.out];omega)]at h2;cases h2
  rw[qW f];have HM:=qQ f;have t1:¬(K:Int)<(n:Int):=by omega
  have t2:decide (K<n)=false:=qW ak;clear f HF Q;generalize jt l x=R at*;go_enter func71,ntmps71;go_wp2_with fail;refine ae.out.mono ?_;rintro e w'⟨rfl,rfl⟩;go_wp2_with fail;refine ab.out.mono ?_;rintro e J⟨rfl,a⟩;obtain⟨z0,z1,L,M,N⟩:=ac.out J a;obtain⟨xh,xv,xp⟩:=x;simp only at L M N;go_wp2;go_quiet (fail);go_wp2_with fail;refine(af.out _ (vo a _) HM.out).mono ?_;rintro e w4⟨F',rfl,g2,g3,g4⟩;go_wp2;go_ret;exact bl.since ⟨F',rfl,g2,g3,g4⟩ ((S.out.trans (jG.qn a) (fun x j=>by cases j)).drewN _)
end
section
open Go.ChangeShapes Go.WideShapes Go.ChangeAt Go.RowKit Go.Deep
structure kL where
 v:Value
 l:List jJ
abbrev els(L:List kL):List (List jJ):=L.map kL.l
abbrev dI(L:List kL):List Value:=L.map kL.v
def dL(w:World)(L:List kL):Prop:=∀x∈L,ju w x.v x.l
def dM(w:World)(v:Value)(L:List kL):Prop :=
 (L=[]/\∃a c,v = .slice a 0 c)∨∃b off d,v = .slice (some ⟨b,off,none⟩) L.length d/\L.length<=d/\d<=maxLen/\b<w.heap.size/\∀i x,L[i]? = some x->w.cell? ⟨b,off+i,none⟩=some x.v
def tr(w:World)(v:Value)(L:List kL):Prop:=dM w v L/\dL w L
theorem dM.below{w w':World}{v:Value}{L:List kL}{B:Nat}(h:dM w v L)(a:Below B w w')(f:w.heap.size<=B):dM w' v L:=by
 rcases h with h|⟨b,off,d,l,j,k,c,g⟩
 ·exact qX h
 ·exact qY ⟨b,off,d,l,j,k,qR c a.size,fun i x m=>(a.cell (p:=⟨b,off+i,none⟩) (qR c f)).trans (g i x m)⟩
theorem dM.form{w:World}{v:Value}{L:List kL}(h:dM w v L):∃A off cap,v = .slice A L.length cap/\L.length<=maxLen /\
  ∀i x,L[i]? = some x->∃b,A=some ⟨b,off,none⟩/\b<w.heap.size/\w.cell? ⟨b,off+i,none⟩=some x.v:=by
 rcases h with⟨rfl,a,c,rfl⟩|⟨b,off,cap,rfl,j,k,d,f⟩
 ·exact⟨a,0,c,rfl,qF _,fun i x h=>by simp at h⟩
 ·exact⟨some ⟨b,off,none⟩,off,cap,rfl,by omega,fun i x g=>⟨b,rfl,d,f i x g⟩⟩
theorem dL.one{w:World}{L:List kL}(h:dL w L):∀u∈dI L,u.oneCell'=true:=by
 intro u a;obtain⟨x,b,rfl⟩:=qN.1 a;obtain⟨A,off,c,e,-,-⟩:=(h x b).form;rw[e];rfl
abbrev kQ(w:World)(base:Nat)(v:Value)(L:List kL):Prop:=w.ownsRow base 37 1 v L.length (dI L)
theorem kQ.nil(w:World)(base:Nat):kQ w base (.slice none 0 0) []:=World.ownsRow_nil _ _ _ _
theorem kQ.at_{w:World}{base:Nat}{v:Value}{L:List kL}(h:kQ w base v L):dM w v L:=by
 have b:=h;rcases h.2 with⟨a,f⟩|⟨g,d,m,a,n,j,l,k,p,q⟩
 ·exact qX ⟨List.length_eq_zero_iff.1 f,none,0,a⟩
 ·refine qY ⟨g,0,d,a,l,k,(qm.1 j).1,fun i x c=>?_⟩;have o:i<L.length:=(qP.1 c).1;rw[a]at b;rw[Nat.zero_add];refine(b.cellAt i (by omega)).trans ?_;show(L.map kL.v)[i]? = _;rw[qu,c];rfl
theorem kQ.xQ{w:World}{base:Nat}{v:Value}{L:List kL}(h:kQ w base v L)(a:dL w L):tr w v L:=⟨h.at_,a⟩
theorem kQ.below{w w':World}{base B:Nat}{v:Value}{L:List kL}(h:kQ w base v L)(i:Below B w w')(f:w.heap.size<=B):kQ w' base v L:=by
 refine⟨h.1, ?_⟩;rcases h.2 with d|⟨g,b,c,l,j,a,r⟩
 ·exact qX d
 ·obtain⟨k,_⟩:=qm.1 a;exact qY ⟨g,b,c,l,j,(i.block g (qR k f)).trans a,r⟩
theorem kQ.some_{w:World}{base n c:Nat}{A:Option Addr}{L:List kL}(h:kQ w base (.slice A n c) L)(k:0<L.length):∃g,A=some ⟨g,0,none⟩/\base<=g/\g<w.heap.size/\n=L.length:=by
 rcases h.2 with⟨a,j⟩|⟨g,f,i,a,b,d,_⟩
 ·omega
 ·obtain⟨rfl,rfl,-⟩:=Value.slice.inj a;exact⟨g,rfl,b,(qm.1 d).1,rfl⟩
theorem kQ.cell{w:World}{base g n c i:Nat}{L:List kL}{x:kL}(h:kQ w base (.slice (some ⟨g,0,none⟩) n c) L)(b:n=L.length)(a:L[i]? = some x):w.cell? ⟨g,i,none⟩=some x.v/\w.frozen? ⟨g,i,none⟩=false:=by
 subst b;have d:i<L.length:=(qP.1 a).1;refine⟨(h.cellAt i (by omega)).trans ?_,h.frozenAt i⟩;show(L.map kL.v)[i]? = _;rw[qu,a];rfl
theorem kQ.put{w:World}{base g n c i:Nat}{L:List kL}(h:kQ w base (.slice (some ⟨g,0,none⟩) n c) L)(b:n=L.length)(x:kL):kQ (w.setCell ⟨g,i,none⟩ x.v) base (.slice (some ⟨g,0,none⟩) n c) (L.set i x):=by
 subst b;have a:=(h.stored i x.v).1;unfold kQ dI;rw[List.length_set,List.map_set];exact a
theorem S5: (prog.info? 37).map (fun i=>(i.zero,i.size,i.bytes))=some (some (.slice none 0 0),1,24):=by kernel_rfl
theorem dM.src{w:World}{v:Value}{L:List kL}(h:dM w v L):dg w 1 v L.length (dI L):=by
 refine⟨by unfold dI;rw[qj,Nat.mul_one], ?_⟩;rcases h with⟨rfl,a,c,rfl⟩|⟨b,off,f,rfl,l,m,n,i⟩
 ·cases a with
  | none=>exact qX ⟨c,rfl,rfl⟩
  | some a=>exact qY ⟨a,c,rfl,fun j u d=>by cases d⟩
 ·refine qY ⟨⟨b,off,none⟩,f,rfl,fun j u d=>?_⟩;unfold dI at d;rw[qu]at d;obtain⟨x,k,rfl⟩:=Option.map_eq_some_iff.1 d;have g:(⟨b,off,none⟩:Addr).add j=⟨b,off+j,none⟩:=by unfold Addr.add;split<;>simp_all
  rw[g];exact i j x k
theorem S6(w:World)(x:kL):dM (w.alloc (.cells #[x.v] 37)) (.slice (some ⟨w.heap.size,0,none⟩) 1 1) [x]:=by
 refine qY ⟨w.heap.size,0,1,rfl,qK _,by unfold maxLen;omega,by simp,fun i y a=>?_⟩
 match i,a with
 | 0,a =>
   obtain rfl:x=y:=(by simpa using a);simp
theorem GQ{w:World}{base:Nat}{a b:Value}{L M:List kL}(n:kQ w base a L)(o:dM w b M)(k:∀u∈dI M,u.oneCell'=true)(t:L.length+M.length<=1000000)(l:base<=w.heap.size)(f:TypeId):
  ∃A c w',(Builtin.append_ #[163,163] f #[a,b]).run prog w = .ok (.slice A (L.length+M.length) c) w'/\kQ w' base (.slice A (L.length+M.length) c) (L++M)/\w.grownBy w' a.ownBlock/\((Value.slice A (L.length+M.length) c).ownBlock=a.ownBlock∨(Value.slice A (L.length+M.length) c).ownBlock=some w.heap.size):=by
 obtain⟨s,m,p,q,r⟩:=info_parts S5;obtain⟨v,w',g,d,i,j⟩:=fE (P:=prog) w base 163 37 s _ 1 24 f Tryz.underlying163 m p q r rfl (by decide) a L.length (dI L) n b M.length (dI M) o.src k (by unfold maxLen;omega) (by omega) l;obtain⟨A,c,rfl,-,-,-⟩:=yw d;refine⟨A,c,w',g, ?_,i,j⟩;unfold kQ dI;rw[List.map_append,qI];exact d
theorem Za: (37:TypeId)≠63:=by decide
theorem kQ.grown{w w':World}{base base':Nat}{u v:Value}{L:List kL}{l:List jJ}(h:kQ w base v L)(g:jE w base' u l)(c:w.grownBy w' u.ownBlock):kQ w' base v L :=
 lC h (F:=u.ownBlock.toList) (jG.grown (jG.refl _ w) c (fun k d=>qX (by rw[d];simp))) (fun b a f=>lD g h Za.symm b a (by simpa using f))
theorem jE.zG{w w':World}{base base':Nat}{u v:Value}{L:List kL}{l:List jJ}(h:jE w base v l)(g:kQ w base' u L)(c:w.grownBy w' u.ownBlock):jE w' base v l :=
 lC h (F:=u.ownBlock.toList) (jG.grown (jG.refl _ w) c (fun k d=>qX (by rw[d];simp))) (fun b a f=>lD g h Za b a (by simpa using f))
theorem jE.xF{w:World}{base base' g n c i:Nat}{v x:Value}{L:List kL}{l:List jJ}(h:jE w base v l)(b:kQ w base' (.slice (some ⟨g,0,none⟩) n c) L):jE (w.setCell ⟨g,i,none⟩ x) base v l :=
 yH h (fun a=>lD b h Za g a rfl) x
theorem kQ.alloc{w:World}{base:Nat}{v:Value}{L:List kL}(h:kQ w base v L)(o:Obj):kQ (w.alloc o) base v L:=kQ.below h ((Below.refl w.heap.size w).alloc (qK _) o) (qK _)
def Ze(w:World)(L:List kL)(e:Ending)(w':World):Prop:=∃A c,e = .returned (.slice A L.length c)/\kQ w' w.heap.size (.slice A L.length c) L/\Below w.heap.size w w'
theorem GX(A:Option Addr)(n c:Nat)(w:World):(binOp .eql 163 (.slice A n c) (.slice none 0 0)).run prog w = .ok (.bool A.isNone) w:=by
 have a:=run_equal_slice_nil (P:=prog) w 163 37 A n c Tryz.underlying163;simp only[binOp];simp[a]
theorem S7(v:Value)(L:List kL)(w:World)(h:tr w v L)(p:L.length<=500000):Calls prog 173 #[v] w (Ze w L):=by
 obtain⟨A,off,j,rfl,-,-⟩:=h.1.form;cases A with
 | none =>
   have D:L=[]:=by
    rcases h.1 with⟨e,_⟩|⟨b,I,H,e,_⟩
    ·exact e
    ·cases e
   subst D;have F:=fun W=>GX none 0 j W
   clear h p;go_enter func173,ntmps173;go_wp2;go_ret;exact⟨none,0,rfl,kQ.nil _ _,Below.refl _ _⟩
 | some a =>
   have f:=(Below.refl w.heap.size w).alloc (qK _) (.cells #[] 37);have q:kQ (w.alloc (.cells #[] 37)) w.heap.size (.slice (some ⟨w.heap.size,0,none⟩) 0 0) []:=World.ownsRow_made w #[] 0 (qK _) (qF _) rfl;have n:=h.1.below f (qK _);obtain⟨s,y,J,c,d,l,z⟩:=GQ q n h.2.one (by simp;omega) (by simp) 163;have o:=f.trans (lz l (B:=w.heap.size) (by simp) (fun k C=>by simp[Value.ownBlock]at C;omega));have u:=qQ o;rw[List.nil_append]at d;have r:([]:List kL).length+L.length=L.length:=(by simp);rw[r]at c d;have i:=qQ d;clear h p f q n d l z o r;unfold Ze;obtain⟨m,g⟩:∃m,m=L.length:=⟨_,rfl⟩
   have G:=qQ g;rw[<-g]at c i ⊢;clear g;have t:=qQ c;have F:=fun W=>GX (some a) m j W
   clear c;go_enter func173,ntmps173;go_wp2_with (first | (at_builtin;refine yI rfl _ _ rfl rfl rfl t.out ?_) | fail);go_ret;exact⟨s,y,rfl,i.out,u.out⟩
end
section
open Go.RowKit Go.Shelf
theorem S9{l:List jJ}{n:Nat}(h:l.length=n+1):l.getLast? = l[n]? := by rw[List.getLast?_eq_getElem?,h,Nat.add_sub_cancel]
theorem Sq(v:Value)(l:List jJ)(x:jJ)(w:World)(h:ju w v l)(C:l.length<=1000000):
  Calls prog 174 #[v,kS x] w fun e w'=>e = .returned (.bool (decide (l.getLast? = some x)))/\Below w.heap.size w w':=by
 obtain⟨A,off,J,rfl,-,n⟩:=h.form;obtain⟨a,d,c⟩:=x;have f:=(Below.refl w.heap.size w).alloc (qK _) (.cells #[.int .u64 (a:Nat),.int .i64 d,.int .i64 c] 63);have D:(w.alloc (.cells #[.int .u64 (a:Nat),.int .i64 d,.int .i64 c] 63)).cell? ⟨w.heap.size,0,none⟩=some (.int .u64 (a:Nat)):=World.cell?_alloc_at _ _ _ _ rfl;have F:(w.alloc (.cells #[.int .u64 (a:Nat),.int .i64 d,.int .i64 c] 63)).cell? ⟨w.heap.size,1,none⟩=some (.int .i64 d):=World.cell?_alloc_at _ _ _ _ rfl;have G:(w.alloc (.cells #[.int .u64 (a:Nat),.int .i64 d,.int .i64 c] 63)).cell? ⟨w.heap.size,2,none⟩=some (.int .i64 c):=World.cell?_alloc_at _ _ _ _ rfl;by_cases j:l=[]
 ·subst j;have e:decide (([]:List jJ).getLast? = some ⟨a,d,c⟩)=false:=qW (by simp);rw[e];clear h n C e;simp only[List.length_nil];go_enter func174,ntmps174;obtain⟨g,s⟩:∃g,w.alloc (.cells #[.int .u64 (a:Nat),.int .i64 d,.int .i64 c] 63)=g:=⟨_,rfl⟩
  rw[s]at f D F G;go_wp2;go_quiet (fail);go_wp2;go_ret;exact⟨rfl,vo f _⟩
 ·obtain⟨m,r⟩:∃m,l.length=m+1:=⟨l.length-1,by have:=List.length_pos_iff.2 j;omega⟩
  obtain⟨y,t⟩:∃y,l[m]? = some y:=⟨_,qC (by omega)⟩
  have e:decide (l.getLast? = some ⟨a,d,c⟩)=decide (y=⟨a,d,c⟩):=by rw[S9 r,t];exact decide_eq_decide.2 ⟨qg,congrArg some⟩
  rw[e];obtain⟨b,rfl,i,u,z,B⟩:=n m y t;have c0:=(f.cell (p:=⟨b,off+m*3,none⟩) i).trans u;have c1:=(f.cell (p:=⟨b,off+m*3+1,none⟩) i).trans z;have c2:=(f.cell (p:=⟨b,off+m*3+2,none⟩) i).trans B;have H:=fun W=>ZH y ⟨a,d,c⟩ W
  obtain⟨k,o⟩:∃k,k=l.length:=⟨_,rfl⟩
  have I:k=m+1:=o.trans r;rw[<-o];have K:(k:Int)-1=(m:Int):=by omega
  have L:decide ((0:Int)<(k:Int))=true:=qA (by omega);have O:decide (0<k)=true:=qA (by omega);have P:(0:Int)<(k:Int):=by omega
  have Q:0<k:=by omega
  have M:IntKind.i64.wrap ((m:Nat):Int)=(m:Nat):=IntWalk.i64_in _ ⟨by omega,by omega⟩;have N:(m:Int)<(k:Int):=by omega
  clear h n C e r t i u z B I o j;generalize decide (y=(⟨a,d,c⟩:jJ))=q at*;obtain⟨R,T,S⟩:=y;simp only at c0 c1 c2 H;go_enter func174,ntmps174;obtain⟨g,s⟩:∃g,w.alloc (.cells #[.int .u64 (a:Nat),.int .i64 d,.int .i64 c] 63)=g:=⟨_,rfl⟩
  rw[s]at f D F G c0 c1 c2;go_wp2;go_quiet (fail);go_wp2;go_ret;exact⟨rfl,vo f _⟩
def cE(L:List (List jJ))(k:Nat)(d:Int):Prop:=(d<0/\-1<=d/\yR (L.take k)=none)∨∃(j:Nat) (x:jJ) (t:List jJ),d=(j:Nat)/\j<k/\L[j]? = some (x::t)/\yR (L.take k)=some x
theorem Sx(L:List (List jJ)):cE L 0 (-1):=qX ⟨by omega,by omega,rfl⟩
theorem Sz{L:List (List jJ)}{k:Nat}{d:Int}(h:L[k]? = some [])(g:cE L k d):cE L (k+1) d:=by
 unfold cE at*;rw[Zq h];rcases g with⟨a,c,b⟩|⟨j,x,t,a,c,b,f⟩
 ·exact qX ⟨a,c,by rw[b];rfl⟩
 ·exact qY ⟨j,x,t,a,by omega,b,by rw[f];rfl⟩
theorem Sj{L:List (List jJ)}{k:Nat}{d:Int}{x:jJ}{t:List jJ}(h:L[k]? = some (x::t))(f:cE L k d)(i:d<0):cE L (k+1) (k:Nat):=by
 unfold cE at*;rw[Zq h];rcases f with⟨b,c,a⟩|⟨j,y,u,b,c,a,g⟩
 ·exact qY ⟨k,x,t,rfl,Nat.lt_succ_self _,h,by rw[a];rfl⟩
 ·omega
theorem Sk{L:List (List jJ)}{k j:Nat}{x y:jJ}{t u:List jJ}(h:L[k]? = some (x::t))(l:cE L k (j:Nat))(c:L[j]? = some (y::u)):cE L (k+1) (if jT x y=true then(k:Nat) else(j:Nat)):=by
 unfold cE at*;rw[Zq h];rcases l with⟨d,f,a⟩|⟨i,z,v,d,f,a,g⟩
 ·omega
 ·obtain rfl:j=i:=by omega
  rw[c]at a;obtain⟨rfl,rfl⟩:=List.cons.inj (qg a);rw[g];split
  ·rename_i b;exact qY ⟨k,x,t,rfl,Nat.lt_succ_self _,h,qV b⟩
  ·rename_i b;exact qY ⟨j,y,u,rfl,by omega,c,qZ b⟩
def mg(T:List jJ)(L:List (List jJ))(k:Nat):Prop:=∀(i:Nat) (x:jJ) (t:List jJ),i<k->L[i]? = some (x::t)->T.getLast?≠some x
theorem Sv(T:List jJ)(L:List (List jJ)):mg T L 0:=fun i x t h=>absurd h (Nat.not_lt_zero _)
theorem Sy{T:List jJ}{L:List (List jJ)}{k:Nat}(h:L[k]? = some [])(b:mg T L k):mg T L (k+1):=fun i x t d a=>by
 rcases Nat.lt_or_ge i k with c|c
 ·exact b i x t c a
 ·obtain rfl:i=k:=by omega
  rw[h]at a;cases a
theorem Su{T:List jJ}{L:List (List jJ)}{k:Nat}{x:jJ}{t:List jJ}(h:L[k]? = some (x::t))(d:T.getLast?≠some x)(b:mg T L k):mg T L (k+1):=fun i y u f a=>by
 rcases Nat.lt_or_ge i k with c|c
 ·exact b i y u c a
 ·obtain rfl:i=k:=by omega
  rw[h]at a;obtain⟨rfl,rfl⟩:=List.cons.inj (qg a);exact d
theorem Sg{T:List jJ}{L:List (List jJ)}(c:mg T L L.length):∀l∈L,∀x t,l=x::t->T.getLast?≠some x:=fun l b x t d=>by
 obtain⟨i,a⟩:=List.getElem?_of_mem b;have:=(qP.1 a).1;subst d;exact c i x t this a
theorem Sb{L:List (List jJ)}{d:Int}(h:cE L L.length d):(d<0/\-1<=d/\yR L=none)∨∃(j:Nat) (x:jJ) (t:List jJ),d=(j:Nat)/\j<L.length/\L[j]? = some (x::t)/\yR L=some x:=by
 unfold cE at h;rw[List.take_length]at h;exact h
theorem Zi{L:List kL}{k:Nat}{y:kL}(h:L[k]? = some y):(els L)[k]? = some y.l:=by unfold els;rw[qu,h];rfl
theorem mc(L:List kL):(els L).length=L.length:=qj _
theorem GZ(L:List kL)(i:Nat)(x:kL):els (L.set i x)=(els L).set i x.l:=List.map_set
theorem dL.set{w:World}{L:List kL}(h:dL w L){i:Nat}{x:kL}(b:ju w x.v x.l):dL w (L.set i x):=fun y a=>by
 rcases List.mem_or_eq_of_mem_set a with a|rfl
 ·exact h y a
 ·exact b
def fJ(w:World)(A1:Option Addr)(n c1:Nat)(R:List jJ)(g:Nat)(u:Value)(wr:World):Prop:=∃(T:List jJ) (a:List kL) (A:Option Addr) (c:Nat),u = .slice A T.length c /\
 jE wr w.heap.size (.slice A T.length c) T/\kQ wr w.heap.size (.slice A1 n c1) a/\a.length=n/\dL w a/\lk g T (els a)/\cr T (els a)=R/\Below w.heap.size w wr
theorem fJ.start{w w1:World}{A1:Option Addr}{c1:Nat}{L:List kL}(h:kQ w1 w.heap.size (.slice A1 L.length c1) L)(b:dL w L)(a:Below w.heap.size w w1):fJ w A1 L.length c1 (dH (els L)) (2*kv (els L)+1) (.slice none 0 0) w1 :=
 ⟨[],L,none,0,rfl,jE.nil _ _,h,rfl,b,RY _,rfl,a⟩
theorem fJ.drop{w w2:World}{n c1 c2 g c k l b:Nat}{A2 B':Option Addr}{R T:List jJ}{a:List kL}{x:jJ}{t:List jJ}
  (m:jE w2 w.heap.size (.slice A2 T.length c2) T) (i:kQ w2 w.heap.size (.slice (some ⟨g,0,none⟩) n c1) a) (f:a.length=n) (p:dL w a) (s:lk c T (els a)) (q:cr T (els a)=R) (o:Below w.heap.size w w2)
  (y:l=T.length) (r:w.heap.size<=g) (j:(els a)[k]? = some (x::t)) (v:T.getLast? = some x) (u:ju w (.slice B' t.length b) t):
  0<c/\fJ w (some ⟨g,0,none⟩) n c1 R (c-1) (.slice A2 l c2) (w2.setCell ⟨g,k,none⟩ (.slice B' t.length b)):=by
 have d:=RU s j;subst y;refine⟨d.1,T,a.set k ⟨.slice B' t.length b,t⟩,A2,c2,rfl,jE.xF m i,kQ.put i f.symm ⟨.slice B' t.length b,t⟩,by rw[List.length_set,f],p.set u, ?_, ?_,o.setCell r _⟩
 ·rw[GZ];exact d.2
 ·rw[GZ,RZ v j];exact q
theorem fJ.add{w w2:World}{n c1 c2 d m:Nat}{A1 A2:Option Addr}{R T:List jJ}{a:List kL}{x:jJ}
  (r:jE w2 w.heap.size (.slice A2 T.length c2) T) (C:kQ w2 w.heap.size (.slice A1 n c1) a) (B:a.length=n) (s:dL w a) (z:lk d T (els a)) (y:cr T (els a)=R) (b:Below w.heap.size w w2)
  (G:m=T.length) (j:yR (els a)=some x) (k:∀l∈els a,∀x t,l=x::t->T.getLast?≠some x) (F:T.length+1<=1000000):
  0<d/\∃u w',(Builtin.append_ #[37,37] 37 #[.slice A2 m c2,.slice (some ⟨w2.heap.size,0,none⟩) 1 1]).run prog (w2.alloc (.cells #[.int .u64 (x.h:Nat),.int .i64 x.v,.int .i64 x.p] 63)) = .ok u w'/\fJ w A1 n c1 R (d-1) u w':=by
 subst G;have i:=RG z j k;have D:kQ (w2.alloc (.cells #[.int .u64 (x.h:Nat),.int .i64 x.v,.int .i64 x.p] 63)) w.heap.size (.slice A1 n c1) a:=kQ.alloc C _;have f:jE (w2.alloc (.cells #[.int .u64 (x.h:Nat),.int .i64 x.v,.int .i64 x.p] 63)) w.heap.size (.slice A2 T.length c2) T:=jE.below r ((Below.refl w2.heap.size w2).alloc (qK _) _) (qK _);obtain⟨A,c,w',o,q,g,-⟩:=oU f (oY w2 x) (by simpa using F) (by have:=b.size;simp;omega) 37;refine⟨i.1,_,w',o,T++[x],a,A,c, ?_, ?_,kQ.grown D f g,B,s,i.2,by rw[RJ j k];exact y, ?_⟩
 ·rw[qI]
 ·rw[qI];exact q
 ·exact(b.alloc b.size _).trans (lz g (by have:=b.size;simp;omega) (jE.block f))
theorem GJ(v:Value)(L:List kL)(w:World)(hL:tr w v L)(hn:L.length<=500000)(ht:kv (els L)<=500000):
  Calls prog 109 #[v] w (yd w (dH (els L))):=by
 have ae:=qQ (S7 v L w hL hn);have an:=qQ (fun w1 A1 c1 h1 h2=>fJ.start (w:=w) (w1:=w1) (A1:=A1) (c1:=c1) (L:=L) h1 hL.2 h2);have aX:=qQ (qO (U8 (els L)) ht);unfold Ze at ae;generalize dH (els L)=R at*;generalize 2*kv (els L)+1=G at*;obtain⟨n,aN⟩:∃n,n=L.length:=⟨_,rfl⟩
 rw[<-aN]at hn an ae;clear hL ht aN;go_enter func109,ntmps109;go_wp2_with fail;go_step3;go_wp2_with fail;refine ae.out.mono ?_;rintro e w1⟨A1,c1,rfl,r1,b1⟩;have HS:=qQ (an.out w1 A1 c1 r1 b1);clear an ae r1 b1;go_wp2;go_step3;go_wp2;go_loopg [4] G (fun g u wr=>fJ w A1 n c1 R g u wr)
 case atStart=>exact HS.out
 case round =>
  obtain⟨wo,rfl⟩:∃wo,wo=wr:=⟨_,rfl⟩
  obtain⟨go,rfl⟩:∃go,go=gk:=⟨_,rfl⟩
  obtain⟨T,A,A2,c2,rfl,hT,aO,aK,aG,aI,aq,aE⟩:=hrel;have HT:=qQ hT;have am:=qQ aO;have U:=qQ aG;have ay:=qQ aI;have ak:=qQ aq;have aw:=qQ aE;have f:=qQ aK;have aB:=qQ (show T.length<=500000 by have:=RV T (els A);rw[aq]at this;have:=aX.out;omega);obtain⟨tl,av⟩:∃tl,tl=T.length:=⟨_,rfl⟩
  have af:=qQ av;rw[<-av];clear hT aO aG aI aq aE aK av;go_wp2;go_loopg [5,12] n (fun Y s5 a3 wx=>∃(k:Nat) (d:Int),k+Y=n/\a3 = .int .i64 k/\s5 = .int .i64 d/\cE (els A) k d/\mg T (els A) k/\Below wo.heap.size wo wx)
  case atStart=>exact⟨0,-1,by omega,rfl,rfl,Sx _,Sv _ _,Below.refl _ _⟩
  case round =>
   obtain⟨k,d,a7,rfl,rfl,aL,aM,aa⟩:=hrel;have V:=qQ aL;have al:=qQ aM;have ad:=qQ aa;have P:=qQ (kQ.below am.out aa (qK _));have ag:=qQ (jE.below HT.out aa (qK _));have a:=qQ (show Below w.heap.size w wr from aw.out.trans (aa.mono aw.out.size));clear aL aM aa;cases gk with
   | zero =>
     obtain rfl:k=n:=(by omega);have s1:¬(k:Int)<(k:Int):=(by omega);have a1:=Sb (L:=els A) (d:=d) (by rw[mc,f.out];exact V.out);have aW:=qQ (Sg (T:=T) (L:=els A) (by rw[mc,f.out];exact al.out));rcases a1 with⟨l,m,ac⟩|⟨j,x,t,rfl,hj,hx,ac⟩
     ·have aR:=qQ (show yd w R (.returned (.slice A2 tl c2)) wr by
       rw[<-ak.out,RK ac,af.out];exact⟨A2,c2,rfl,ag.out,a.out⟩)
      clear ac;go_wp2
      (try rw[Exit.noGoto_ret])
      go_ret;exact aR.out
     ·obtain⟨a8,u,w3,e1,e2⟩:=fJ.add ag.out P.out f.out U.out ay.out ak.out a.out af.out ac aW.out (by have:=aB.out;omega);have ax:=qQ e1;have aQ:=qQ e2;have aJ:j<k:=(by rw[mc,f.out]at hj;exact hj);obtain⟨y,F⟩:∃y,A[j]? = some y:=⟨_,qC (by rw[f.out];exact aJ)⟩
      obtain⟨g,rfl,ah,ar,-⟩:=am.out.some_ (by rw[f.out];omega);obtain⟨C,-⟩:=kQ.cell P.out f.out.symm F;have D:=U.out y (qM F);have O:=Zi F;rw[hx]at O;obtain⟨yv,yl⟩:=y;obtain rfl:x::t=yl:=qg O;simp only at C D;obtain⟨B,off,aC,rfl,ab,N⟩:=D.form;obtain⟨b,rfl,s,l,m,r⟩:=N 0 x rfl;simp only[Nat.zero_mul,Nat.add_zero]at l m r;have H:=(a.out.cell (p:=⟨b,off,none⟩) s).trans l;have I:=(a.out.cell (p:=⟨b,off+1,none⟩) s).trans m;have J:=(a.out.cell (p:=⟨b,off+2,none⟩) s).trans r;have s2:(j:Int)<(k:Int):=(by omega);have s3:(0:Int)<(((t.length:Nat):Int)+1):=(by omega);clear e1 e2 hj aJ hx ac F O D ab N l m r s;obtain⟨xh,xv,xp⟩:=x;simp only at H I J ax;simp only[List.length_cons]at C;go_wp2_with (first | (at_builtin;refine yI rfl _ _ rfl rfl rfl ax.out ?_) | fail);go_roundg (go-1)
      case measure=>omega
      case rel=>exact aQ.out
   | succ gi =>
     have a0:k<n:=(by omega);have s1:(k:Int)<(n:Int):=(by omega);obtain⟨y,F⟩:∃y,A[k]? = some y:=⟨_,qC (by rw[f.out];exact a0)⟩
     obtain⟨g,rfl,ah,ar,-⟩:=am.out.some_ (by rw[f.out];omega);obtain⟨C,fy⟩:=kQ.cell P.out f.out.symm F;have K:=qQ (Zi F);have D:=U.out y (qM F);have aU:=qQ F;clear F;obtain⟨yv,yl⟩:=y;simp only at C D K;have aS:=qQ D;obtain⟨B,off,aC,rfl,ab,N⟩:=D.form;cases yl with
     | nil =>
       simp only[List.length_nil]at C;clear N ab D;go_wp2;go_roundg gi
       case measure=>omega
       case rel=>exact⟨k+1,d,by omega,by go_num,rfl,Sz K.out V.out,Sy K.out al.out,ad.out⟩
     | cons x t =>
       simp only[List.length_cons]at C;obtain⟨b,rfl,s,l,m,r⟩:=N 0 x rfl;simp only[Nat.zero_mul,Nat.add_zero]at l m r;have H:=(a.out.cell (p:=⟨b,off,none⟩) s).trans l;have I:=(a.out.cell (p:=⟨b,off+1,none⟩) s).trans m;have J:=(a.out.cell (p:=⟨b,off+2,none⟩) s).trans r;have s3:(0:Int)<(((t.length:Nat):Int)+1):=(by omega);have s4:(((t.length:Nat):Int)+1==0)=false:=qv.2 (by omega);have S:=Sq (.slice A2 tl c2) T x wr (by rw[af.out];exact jE.xQ ag.out) (by have:=aB.out;omega);have ao:b<wr.heap.size:=qR s a.out.size;have aH:g<wr.heap.size:=qR ar ad.out.size;by_cases Q:T.getLast? = some x
       ·rw[qA Q]at S;have X:=qQ S;obtain⟨B',c',hs,hp⟩:=ZO (k:=1) aS.out (by simp);have a9:∀W,(Instr.slice 37 (.slice (some ⟨b,off,none⟩) (t.length+1) aC) (some (.int .i64 1)) none none).run prog W = .ok (.slice B' t.length c') W:=fun W=>hs W
        have HP:=qQ (show ju w (.slice B' t.length c') t from hp w.heap.size w (qK _) (Below.refl _ _));have aP:=qQ (fun w2 h1 h2 h3=>fJ.drop (w:=w) (w2:=w2) (c1:=c1) (c2:=c2) (A2:=A2) h1 h2 f.out U.out ay.out ak.out h3 af.out ah K.out Q HP.out);have HG:=qQ ah;clear Q hs hp l m r N ab D S ah ar s;obtain⟨xh,xv,xp⟩:=x;simp only at H I J;go_wp2_with fail;refine X.out.mono ?_;rintro e w2⟨rfl,q⟩;have a5:=(q.cell (p:=⟨g,k,none⟩) aH).trans C;have a6:=(kQ.cell (kQ.below P.out q (qK _)) f.out.symm aU.out).2;have HD:=qQ (aP.out w2 (jE.below ag.out q (qK _)) (kQ.below P.out q (qK _)) (a.out.trans (q.mono a.out.size)));clear H I J C fy q;go_wp2;go_roundg (go-1)
        case measure=>have:=HD.out.1;omega
        case rel=>exact HD.out.2
       ·rw[qW Q]at S;have X:=qQ S;have aA:=qQ (Su K.out Q al.out);clear Q S D ab N l m r;by_cases hd:d<0
        ·have aV:=qQ (Sj K.out V.out hd);obtain⟨xh,xv,xp⟩:=x;simp only at H I J;go_wp2_with fail;refine X.out.mono ?_;rintro e w2⟨rfl,q⟩;have aj:=qQ (bj ad.out q);clear H I J C fy q;go_wp2_with fail;go_quiet (fail);go_wp2;go_roundg gi
         case measure=>omega
         case rel=>exact⟨k+1,(k:Nat),by omega,by go_num,rfl,aV.out,aA.out,vo aj.out _⟩
        ·obtain⟨j,z,u,rfl,hj,hz,-⟩:∃(j:Nat) (z:jJ) (u:List jJ),d=(j:Nat)/\j<k/\(els A)[j]? = some (z::u)/\yR ((els A).take k)=some z:=by
          rcases V.out with⟨h,_⟩|h
          ·exact absurd h hd
          ·exact h
         have az:=qQ (Sk K.out V.out hz);obtain⟨y2,ai⟩:∃y,A[j]? = some y:=⟨_,qC (by rw[f.out];omega)⟩
         obtain⟨gy,-⟩:=kQ.cell P.out f.out.symm ai;have au:=U.out y2 (qM ai);have O:=Zi ai;rw[hz]at O;obtain⟨a_,a4⟩:=y2;obtain rfl:z::u=a4:=qg O;simp only at gy au;obtain⟨B2,i,aD,rfl,a2,aF⟩:=au.form;obtain⟨c,rfl,Z,l,m,r⟩:=aF 0 z rfl;simp only[Nat.zero_mul,Nat.add_zero]at l m r;simp only[List.length_cons]at gy;have g0:=(a.out.cell (p:=⟨c,i,none⟩) Z).trans l;have g1:=(a.out.cell (p:=⟨c,i+1,none⟩) Z).trans m;have Y:=(a.out.cell (p:=⟨c,i+2,none⟩) Z).trans r;have ap:c<wr.heap.size:=qR Z a.out.size;have s5:(0:Int)<(((u.length:Nat):Int)+1):=(by omega);have s6:(j:Int)<(n:Int):=(by omega);have s7:decide ((j:Int)<0)=false:=qW (by omega);have HL:=fun W=>oK x z W
         clear l m r hj hz ai O au a2 aF Z hd s;cases o:jT x z
         all_goals
          rw[o]at HL az;have aT:=qQ HL;clear HL o;obtain⟨xh,xv,xp⟩:=x;obtain⟨zh,zv,zp⟩:=z;simp only at H I J g0 g1 Y;go_wp2_with fail;refine X.out.mono ?_;rintro e w2⟨rfl,q⟩;have aj:=qQ (bj ad.out q)
          have HS:Hid (∀W,Below w2.heap.size w2 W->Below w2.heap.size w2 W/\W.cell? ⟨g,j,none⟩=some (.slice (some ⟨c,i,none⟩) (u.length+1) aD)/\W.cell? ⟨b,off,none⟩=some (.int .u64 (xh:Nat))/\W.cell? ⟨b,off+1,none⟩=some (.int .i64 xv)/\W.cell? ⟨b,off+2,none⟩=some (.int .i64 xp) /\
           W.cell? ⟨c,i,none⟩=some (.int .u64 (zh:Nat))/\W.cell? ⟨c,i+1,none⟩=some (.int .i64 zv)/\W.cell? ⟨c,i+2,none⟩=some (.int .i64 zp)):=qQ fun W hW=>by
           have M:=bj q hW;exact⟨hW,(M.cell (p:=⟨g,j,none⟩) aH).trans gy,(M.cell (p:=⟨b,off,none⟩) ao).trans H,(M.cell (p:=⟨b,off+1,none⟩) ao).trans I,(M.cell (p:=⟨b,off+2,none⟩) ao).trans J,(M.cell (p:=⟨c,i,none⟩) ap).trans g0,(M.cell (p:=⟨c,i+1,none⟩) ap).trans g1,(M.cell (p:=⟨c,i+2,none⟩) ap).trans Y⟩
          obtain⟨-,t0,t1,t2,t3,t4,t5,t6⟩:=HS.out w2 (Below.refl _ _);clear H I J g0 g1 Y C fy q gy X;go_wp2_with fail
          go_region_held3 (fun W=>Below w2.heap.size w2 W/\W.cell? ⟨g,j,none⟩=some (.slice (some ⟨c,i,none⟩) (u.length+1) aD)/\W.cell? ⟨b,off,none⟩=some (.int .u64 (xh:Nat))/\W.cell? ⟨b,off+1,none⟩=some (.int .i64 xv)/\W.cell? ⟨b,off+2,none⟩=some (.int .i64 xp) /\
           W.cell? ⟨c,i,none⟩=some (.int .u64 (zh:Nat))/\W.cell? ⟨c,i+1,none⟩=some (.int .i64 zv)/\W.cell? ⟨c,i+2,none⟩=some (.int .i64 zp))
           (first | (with_reducible assumption) | ((with_reducible refine HS.out _ ?_);(first | (with_reducible assumption) | (with_reducible exact Below.refl _ _) | (with_reducible exact(Below.refl _ _).drew) | exact(bj (And.left (by with_reducible assumption)) ‹Below _ _ _›));done) | fail)
           (first
           | (go_at_call 137;((with_reducible refine(aT.out _).mono ?_);rintro e w3⟨rfl,aZ⟩;have aY:Below w2.heap.size w2 w3:=bj (And.left (by with_reducible assumption)) aZ))
           | fail)
          all_goals
           go_wp2;go_roundg gi
           case measure=>omega
           case rel=>exact⟨k+1,_,by omega,by go_num,rfl,az.out,aA.out,bj aj.out aY⟩
end
section
open Go.RowKit Go.Shelf
attribute [local go_sem ↓] Go.wp_at_zero Go.wp_at_succ
def ta(w:World)(base:Nat)(v:Value)(m:List jJ)(e:Ending)(w':World):Prop :=
 ∃A c,e = .returned (.slice A m.length c)/\jE w' base (.slice A m.length c) m/\Below w.heap.size w w'/\∀b∈jF (.slice A m.length c),b∈jF v∨(w.heap.size<=b/\b<w'.heap.size)
theorem GK{v:Value}{L:List jJ}{w:World}{base:Nat}(ao:jE w base v L)(aC:base<=w.heap.size)(x:jJ)(hn:L.length<=10000):
  Calls prog 69 #[v,kS x] w (ta w base v (jt L x)):=by
 obtain⟨V,c1,rfl,-,-,-⟩:=yw ao;have hA:=(Below.refl w.heap.size w).alloc (qK _) (.cells #[.int .u64 (x.h:Nat),.int .i64 x.v,.int .i64 x.p] 63);have J:jY (w.alloc (.cells #[.int .u64 (x.h:Nat),.int .i64 x.v,.int .i64 x.p] 63)) w.heap.size 63 #[.int .u64 (x.h:Nat),.int .i64 x.v,.int .i64 x.p]:=jY.new _ _ _;have hg:=J.lt;have ap:(w.alloc (.cells #[.int .u64 (x.h:Nat),.int .i64 x.v,.int .i64 x.p] 63)).heap.size=w.heap.size+1:=by simp
 obtain⟨t,aq⟩:∃t,w.alloc (.cells #[.int .u64 (x.h:Nat),.int .i64 x.v,.int .i64 x.p] 63)=t:=⟨_,rfl⟩
 rw[aq]at hA J hg ap
 have M:=qQ (show ∀W,Below t.heap.size t W->W.cell? ⟨w.heap.size,0,none⟩=some (.int .u64 (x.h:Nat))/\W.cell? ⟨w.heap.size,1,none⟩=some (.int .i64 x.v)/\W.cell? ⟨w.heap.size,2,none⟩=some (.int .i64 x.p) from fun W d =>
  ⟨(J.below d).cell 0,(J.below d).cell 1,(J.below d).cell 2⟩)
 have Z:=qQ (jE.below ao hA (qK _));have am:=jE.xQ Z.out;have ah:=qQ am;have C:=qQ am.form;obtain⟨m,hm⟩:∃m,m=L.length:=⟨_,rfl⟩
 have f:=qQ hm;have af:=qQ (fun W (d:Below t.heap.size t W)=>bj hA d);have aU:=qQ ap;have aK:=qQ aC;obtain⟨K,hK⟩:∃K,jt L x=K:=⟨_,rfl⟩
 have HK:=qQ hK;have aX:m<=10000:=by omega
 rw[<-hm,hK];clear ao J am hm hA ap hn aC hK;have aQ:=qQ aq;clear aq;generalize aD:w.heap.size=g at*;have H:=qQ aD;clear aD;go_enter func69,ntmps69;go_upto_block 0 with fail;rw[aQ.out,H.out];go_cut [5] from 6 to 44 (fun u wx=>u = .int .i64 (kD L x:Nat)/\Below t.heap.size t wx)
 case first =>
  go_wp2_with fail;go_loopw [5] (fun i wr=>∃j:Nat,j<=m/\i = .int .i64 j/\(∀j' y,j'<j->L[j']? = some y->jT y x=true)/\Below t.heap.size t wr) (fun i _=>m-(intOf i).toNat)
  case atStart=>exact⟨0,qF _,rfl,fun j' y n=>absurd n (by omega),Below.refl _ _⟩
  case round =>
   obtain⟨j,n,rfl,aB,B⟩:=hrel;have ae:=qQ aB;clear aB;by_cases ad:j<m
   ·have t1:(j:Int)<(m:Int):=(by omega);obtain⟨y,G⟩:∃y,L[j]? = some y:=⟨_,qC (by rw[<-f.out];omega)⟩
    obtain⟨A',r,c',O,-,Q⟩:=C.out;obtain⟨rfl,-,rfl⟩:=Value.slice.inj O;obtain⟨s,rfl,A,R,S,T⟩:=Q j y G
    have HS:Hid (∀W,Below wr.heap.size wr W->Below wr.heap.size wr W/\(W.cell? ⟨g,0,none⟩=some (.int .u64 (x.h:Nat))/\W.cell? ⟨g,1,none⟩=some (.int .i64 x.v)/\W.cell? ⟨g,2,none⟩=some (.int .i64 x.p)) /\
      (W.cell? ⟨s,r+j*3,none⟩=some (.int .u64 (y.h:Nat))/\W.cell? ⟨s,r+j*3+1,none⟩=some (.int .i64 y.v)/\W.cell? ⟨s,r+j*3+2,none⟩=some (.int .i64 y.p))):=qQ fun W d =>
     ⟨d,M.out W (bj B d),((bj B d).cell (p:=⟨s,r+j*3,none⟩) A).trans R,((bj B d).cell (p:=⟨s,r+j*3+1,none⟩) A).trans S,((bj B d).cell (p:=⟨s,r+j*3+2,none⟩) A).trans T⟩
    have s0:=HS.out wr (Below.refl _ _);have HY:=qQ G;have HL:=fun W=>PC y x W
    clear Q R S T A O G C;cases o:jT y x
    all_goals
     rw[o]at HL;have aM:=qQ HL;have HO:=qQ o;clear HL o;obtain⟨-,⟨a0,a1,a2⟩,c0,aV,c2⟩:=s0;go_wp2_with fail
     go_region_held3 (fun W=>Below wr.heap.size wr W/\(W.cell? ⟨g,0,none⟩=some (.int .u64 (x.h:Nat))/\W.cell? ⟨g,1,none⟩=some (.int .i64 x.v)/\W.cell? ⟨g,2,none⟩=some (.int .i64 x.p)) /\
      (W.cell? ⟨s,r+j*3,none⟩=some (.int .u64 (y.h:Nat))/\W.cell? ⟨s,r+j*3+1,none⟩=some (.int .i64 y.v)/\W.cell? ⟨s,r+j*3+2,none⟩=some (.int .i64 y.p)))
      (first | (with_reducible assumption) | ((with_reducible refine HS.out _ ?_);(first | (with_reducible assumption) | (with_reducible exact Below.refl _ _) | (with_reducible exact(Below.refl _ _).drew) | exact(bj (And.left (by with_reducible assumption)) ‹Below _ _ _›));done) | fail)
      (first
      | (go_at_call 133;((with_reducible refine(aM.out _).mono ?_);rintro e w3⟨rfl,aS⟩;have ay:Below wr.heap.size wr w3:=bj (And.left (by with_reducible assumption)) aS))
      | fail)
     all_goals
      go_wp2
      first
      | (go_roundw
         case rel =>
          refine⟨j+1,by omega,by go_num,fun i z hi hz=>?_,bj B ay⟩;rcases Nat.lt_or_ge i j with c|c
          ·exact ae.out i z c hz
          ·obtain rfl:i=j:=(by omega);rw[HY.out]at hz;rw[<-qg hz];exact HO.out
         case measure=>simp[intOf];omega)
      | (go_meet
         exact⟨by rw[Nat.le_antisymm (OL HY.out HO.out) (Yj (by rw[<-f.out];exact n) ae.out)],bj B ay⟩)
   ·obtain rfl:j=m:=(by omega);have t1:¬(j:Int)<(j:Int):=(by omega);have t2:decide (j<j)=false:=qW (by omega);have hP:=qQ (show kD L x=j from Nat.le_antisymm (by rw[f.out];exact pr L x) (Yj (by rw[<-f.out];exact n) ae.out));clear ad C;go_wp2
    first
    | (go_quiet (fail)
       go_wp2;go_meet;exact⟨by rw[hP.out],vo B _⟩)
    | (go_meet
       exact⟨by rw[hP.out],B⟩)
 case rest =>
  obtain⟨rfl,I⟩:=hcut;have ad:kD L x<=m:=by rw[f.out];exact pr L x
  have ai:=qQ (Rq (L:=L) (x:=x));have aj:=qQ (Rx (L:=L) (x:=x));generalize kD L x=j at*;go_upto_region 4 with fail;go_cut [31] from 6 to 44 (fun c wx=>c = .bool (decide (L[j]? = some x))/\∃U,wx=wc.drewN U)
  case first =>
   by_cases n:j=m
   ·subst n;have e0:L[j]? = none:=List.getElem?_eq_none (by rw[<-f.out];exact qK _);have E0:=qQ (show decide (L[j]? = some x)=false by rw[e0];exact qW (fun h=>by cases h));have t1:¬(j:Int)<(j:Int):=(by omega);have t2:decide (j<j)=false:=qW (by omega);clear C e0;go_wp2_with fail;go_quiet (fail);go_wp2;go_meet;exact⟨by rw[E0.out],_,rfl⟩
   ·have t3:(j:Int)<(m:Int):=(by omega);have t4:j<m:=(by omega);have t5:decide (j<m)=true:=qA t4;obtain⟨y,G⟩:∃y,L[j]? = some y:=⟨_,qC (by rw[<-f.out];omega)⟩
    obtain⟨A',r,c',O,-,Q⟩:=C.out;obtain⟨rfl,-,rfl⟩:=Value.slice.inj O;obtain⟨s,rfl,A,R,S,T⟩:=Q j y G;have f0:=(I.cell (p:=⟨s,r+j*3,none⟩) A).trans R;have f1:=(I.cell (p:=⟨s,r+j*3+1,none⟩) A).trans S;have f2:=(I.cell (p:=⟨s,r+j*3+2,none⟩) A).trans T;obtain⟨a0,a1,a2⟩:=M.out wc I;have aW:=fun W=>ZH y x W
    have E1:=qQ (show decide (L[j]? = some x)=decide (y=x) by rw[G,decide_eq_decide];exact⟨fun h=>qg h,fun h=>by rw[h]⟩);clear Q R S T A O G C n;generalize decide (y=x)=q at*;obtain⟨xh,xv,xp⟩:=x;obtain⟨yh,yv,yp⟩:=y;simp only at f0 f1 f2 a0 a1 a2;go_wp2_with fail;go_quiet (fail);go_wp2;go_meet;exact⟨by rw[E1.out],_,rfl⟩
  case rest =>
   obtain⟨rfl,U,rfl⟩:=hcut;have F:Below t.heap.size t (wc.drewN U):=vo I U;clear I C;generalize wc.drewN U=a at*;by_cases n:L[j]? = some x
   ·rw[qA n];have aA:=jE.below Z.out F (qK _)
    have ag:Hid (ta w base (.slice V m c1) K (.returned (.slice V m c1)) a):=qQ (by
     rw[<-HK.out,aj.out n];refine⟨V,c1,by rw[f.out],aA,by rw[H.out];exact af.out _ F,fun b hb=>qX (by rw[f.out];exact hb)⟩)
    clear Z ai aj ah aA M n;go_wp2;go_ret;exact ag.out
   ·rw[qW n];have az:=ai.out n;have X:=qQ (fun W (d:Below a.heap.size a W)=>(show g<=W.heap.size from by rw[<-H.out];exact(bj (by have:=af.out _ F;rw[<-H.out]at this;exact this) d).size));have ac:=ju.below ah.out F (qK _);have av:=qQ (fun W (d:Below a.heap.size a W)=>M.out W (bj F d));rw[<-f.out]at ac;obtain⟨T1,aZ,aY,aG⟩:=Oc ac (m:=j) (by rw[<-f.out];exact ad);obtain⟨T2,a3,aT,an⟩:=ZO ac (k:=j) (by rw[<-f.out];exact ad);obtain⟨a0,a1,a2⟩:=av.out a (Below.refl _ _);have aE:(L.take j).length=j:=(by rw[qS,<-f.out];omega);have aF:(L.drop j).length=m-j:=(by rw[List.length_drop,<-f.out]);rw[<-f.out]at aT an;have aO:=qQ aG;have aP:=qQ an;have Y:=qQ aE;have aL:=qQ aF;have aN:=qQ ((HK.out.symm.trans az.symm));have aJ:=qQ F;have s0:(0:Int)<=0:=(by omega);clear n Z ai aj ah az ac aG an aE aF M F;go_upto_region 6 with fail;have HS:Hid (∀W,Below a.heap.size a W->Below a.heap.size a W/\W.cell? ⟨g,0,none⟩=some (.int .u64 (x.h:Nat))/\W.cell? ⟨g,1,none⟩=some (.int .i64 x.v)/\W.cell? ⟨g,2,none⟩=some (.int .i64 x.p)):=qQ fun W d=>⟨d,av.out W d⟩
    go_region_held_law (fun W=>Below a.heap.size a W/\W.cell? ⟨g,0,none⟩=some (.int .u64 (x.h:Nat))/\W.cell? ⟨g,1,none⟩=some (.int .i64 x.v)/\W.cell? ⟨g,2,none⟩=some (.int .i64 x.p))
     (first | (with_reducible assumption) | ((with_reducible refine HS.out _ ?_);(repeat' (first | (with_reducible assumption) | (with_reducible exact Below.refl _ _) | (with_reducible refine Below.drew ?_) | (with_reducible refine bd ?_ _) | exact And.left (by with_reducible assumption)));done) | fail)
     (first
     | (refine oA (l:=[]) (m:=L.take j) (by rfl) _ _ (by rfl) (by rfl) (by rfl) (jE.nil _ g) (aO.out _ _ (qK _) (And.left (by with_reducible assumption))) (by rw[Y.out];simp only[List.length_nil];omega) (X.out _ (And.left (by with_reducible assumption))) ?_;intro v1 V1 ar al aw;have P:∀z,v1.ownBlock=some z->a.heap.size<=z:=rZ (And.left (by with_reducible assumption)) tH aw;have D:Below a.heap.size a V1:=oB (And.left (by with_reducible assumption)) al tH;(with_reducible (try (have sB:=(oY _ x).drew.zl al))))
     | (refine oA (l:=[]++L.take j) (m:=[x]) (by rfl) _ _ (by rfl) (by rfl) (by rfl) (jE.alloc ar _) (oY _ x) (by simp only[List.nil_append,List.length_cons,List.length_nil];rw[Y.out];omega) (X.out _ (bd D _)) ?_;intro v2 V2 au ab aa;have ak:∀z,v2.ownBlock=some z->a.heap.size<=z:=rZ (bd D _) P aa;have N:Below a.heap.size a V2:=oB (bd D _) ab P)
     | (refine oA (l:=[]++L.take j) (m:=[x]) (by rfl) _ _ (by rfl) (by rfl) (by rfl) ar sB (by simp only[List.nil_append,List.length_cons,List.length_nil];rw[Y.out];omega) (X.out _ D) ?_;intro v2 V2 au ab aa;have ak:∀z,v2.ownBlock=some z->a.heap.size<=z:=rZ D P aa;have N:Below a.heap.size a V2:=oB D ab P)
     | (refine oA (l:=[]++L.take j++[x]) (m:=L.drop j) (by rfl) _ _ (by rfl) (by rfl) (by rfl) au (aP.out _ _ (qK _) N) (by simp only[List.nil_append,List.length_append,List.length_cons,List.length_nil];rw[Y.out,aL.out];omega) (X.out _ N) ?_;intro v3 V3 aH ax aR;have b3:Below a.heap.size a V3:=oB N ax ak)
     | fail)
    all_goals
     have ag:Hid (ta w base (.slice V m c1) K (.returned v3) V3):=qQ (by
      rw[aN.out];obtain⟨A9,c9,rfl,aI⟩:=jE.shape aH;have hw:Below w.heap.size w V3:=(by rw[H.out];exact af.out _ (bj aJ.out b3));exact⟨A9,c9,rfl,jE.down aI aK.out,hw,fun b hb=>qY (by have:=aI.lt b (kG.1 hb);rw[H.out];exact this)⟩)
     clear ar au aH al ab ax aw aa aR P ak D N b3;go_wp2;exact bodyPost_ret (v:=v3) (by simp[results,Tryz.results69,go_sem]) rfl ag.out
end
section
open Go.RowKit Go.Shelf
theorem Sc(q:jJ->Bool)(l:List jJ)(k:Nat)(x:jJ)(h:l[k]? = some x):(l.take (k+1)).filter q=(l.take k).filter q++(if q x=true then [x] else []):=by
 rw[ZA l k x h,List.filter_append];cases a:q x
 ·rw[List.filter_cons,a];rfl
 ·rw[List.filter_cons,a];rfl
theorem Sd(v:Value)(l:List jJ)(h:Nat)(a b:Int)(w:World)(S:ju w v l)(hn:l.length<=400000):
  Calls prog 141 #[v,.int .u64 (h:Nat),.int .i64 a,.int .i64 b] w (yd w (kZ l h a b)):=by
 obtain⟨A,off,af,rfl,-,Q⟩:=S.form;have HC:=qQ Q;obtain⟨n,z⟩:∃n,n=l.length:=⟨_,rfl⟩
 have HN:=qQ z;have HE:=qQ (show kZ l h a b=(l.take n).filter (inQ h a b) by rw[z,List.take_length];rfl);rw[<-z]at hn ⊢;clear S Q z;generalize kZ l h a b=r at*;go_enter func141,ntmps141;go_wp2;go_loopw [9,10] (fun u i wr=>∃k:Nat,k<=n/\i = .int .i64 k/\(∃A c,u = .slice A ((l.take k).filter (inQ h a b)).length c/\jE wr w.heap.size (.slice A ((l.take k).filter (inQ h a b)).length c) ((l.take k).filter (inQ h a b)))/\Below w.heap.size w wr) (fun _ i _=>n-(intOf i).toNat)
 case atStart=>exact⟨0,qF _,rfl,⟨none,0,rfl,jE.nil _ _⟩,Below.refl _ _⟩
 case round =>
  obtain⟨k,hk,rfl,⟨m,c1,rfl,U⟩,d⟩:=hrel;have j:=qQ U;clear U;by_cases ae:k<n
  ·have s1:(k:Int)<(n:Int):=(by omega);obtain⟨x,F⟩:∃x,l[k]? = some x:=⟨_,qC (by rw[<-HN.out];omega)⟩
   obtain⟨C,rfl,D,I,J,K⟩:=HC.out k x F;have M:=(d.cell (p:=⟨C,off+k*3,none⟩) D).trans I;have N:=(d.cell (p:=⟨C,off+k*3+1,none⟩) D).trans J;have O:=(d.cell (p:=⟨C,off+k*3+2,none⟩) D).trans K;have y:=qQ (Sc (inQ h a b) l k x F);have s:=qQ (show inQ h a b x=decide (x.h=h/\a<=x.v/\x.v<=b) from rfl)
   have T:((l.take k).filter (inQ h a b)).length<=n:=by
    have h1:=List.length_filter_le (inQ h a b) (l.take k);rw[qS]at h1;omega
   generalize (l.take k).filter (inQ h a b)=L at*;clear F I J K;by_cases g:x.h=h/\a<=x.v/\x.v<=b
   ·have q:inQ h a b x=true:=(by rw[s.out];exact qA g);have f:=y.out;rw[q,qV rfl]at f;have P:=(Below.refl wr.heap.size wr).alloc (qK _) (.cells #[.int .u64 (x.h:Nat),.int .i64 x.v,.int .i64 x.p] 63);obtain⟨B,c2,Z,V,X,Y,r4⟩:=oU (jE.below j.out P (qK _)) (oY wr x) (by show L.length+1<=_;omega) (by have:=d.size;simp;omega) 37;have ab:=(d.alloc d.size (.cells #[.int .u64 (x.h:Nat),.int .i64 x.v,.int .i64 x.p] 63)).trans (lz Y (by have:=d.size;simp;omega) (jE.block j.out));have o:=qQ (show ∃A c,Value.slice B (L.length+1) c2 = .slice A ((l.take (k+1)).filter (inQ h a b)).length c/\jE Z w.heap.size (.slice A ((l.take (k+1)).filter (inQ h a b)).length c) ((l.take (k+1)).filter (inQ h a b)) from⟨B,c2,by rw[f,qI];rfl,by rw[f,qI];exact X⟩);have W:(Builtin.append_ #[37,37] 37 #[.slice m L.length c1,.slice (some ⟨wr.heap.size,0,none⟩) 1 1]).run prog (wr.alloc (.cells #[.int .u64 (x.h:Nat),.int .i64 x.v,.int .i64 x.p] 63)) = .ok (.slice B (L.length+1) c2) Z:=V;have HA:=qQ W;obtain⟨R,ac,ad⟩:=g;clear V X Y r4 W P f q T s y d;obtain⟨G,H,xp⟩:=x;simp only at M N O R ac ad;subst R;go_wp2_with (first | (at_builtin;refine yI rfl _ _ rfl rfl rfl HA.out ?_) | fail);go_wp2;go_roundw
    case rel=>exact⟨k+1,by omega,by go_num,o.out,ab⟩
    case measure=>simp[intOf];omega
   ·have q:inQ h a b x=false:=(by rw[s.out];exact qW g);have f:=y.out;rw[q,qZ (by decide),List.append_nil]at f;have o:=qQ (show ∃A c,Value.slice m L.length c1 = .slice A ((l.take (k+1)).filter (inQ h a b)).length c/\jE wr w.heap.size (.slice A ((l.take (k+1)).filter (inQ h a b)).length c) ((l.take (k+1)).filter (inQ h a b)) from⟨m,c1,by rw[f],by rw[f];exact j.out⟩);clear q f T s y j;obtain⟨G,H,xp⟩:=x;simp only at M N O g;by_cases i1:G=h
    ·subst i1;by_cases i2:a<=H
     ·have i3:¬H<=b:=fun t=>g ⟨rfl,i2,t⟩
      clear g;go_wp2;go_roundw
      case rel=>exact⟨k+1,by omega,by go_num,o.out,d⟩
      case measure=>simp[intOf];omega
     ·clear g;go_wp2;go_roundw
      case rel=>exact⟨k+1,by omega,by go_num,o.out,d⟩
      case measure=>simp[intOf];omega
    ·have t2:((G:Int)==(h:Int))=false:=qv.2 (by omega);clear g;go_wp2;go_roundw
     case rel=>exact⟨k+1,by omega,by go_num,o.out,d⟩
     case measure=>simp[intOf];omega
  ·obtain rfl:k=n:=(by omega);have s1:¬(k:Int)<(k:Int):=(by omega);have aa:=qQ (show yd w r (.returned (.slice m ((l.take k).filter (inQ h a b)).length c1)) wr by rw[HE.out];exact⟨m,c1,rfl,j.out,d⟩);clear ae j;generalize (l.take k).filter (inQ h a b)=L at*;go_wp2;go_ret;exact aa.out
def br(seed:Nat)(s:Tw)(f:Int)(n:Nat)(q:Int):List jJ:=(List.range n).map fun i=>⟨uq seed s.data.toList,f+(i:Nat),q⟩
theorem rW(seed:Nat)(s:Tw)(f:Int)(n:Nat)(q:Int):(br seed s f n q).length=n:=by unfold br;rw[qj,List.length_range]
theorem Sf(seed:Nat)(s:Tw)(f:Int)(n:Nat)(q:Int):br seed s f (n+1) q=br seed s f n q++[⟨uq seed s.data.toList,f+(n:Nat),q⟩]:=by unfold br;rw[List.range_succ,List.map_append];rfl
def ld(w:World)(s:Tw)(f:Int)(A:Option Addr)(n c:Nat)(R:List jJ)(u:Value)(wr:World):Prop :=
 jE wr w.heap.size u R/\jY wr w.heap.size 53 #[.string s,.int .i64 f,.slice A n c]/\Below w.heap.size w wr
theorem ld.more{w wr W V:World}{s:Tw}{f:Int}{A:Option Addr}{n c:Nat}{R d:List jJ}{u v:Value}(h:ld w s f A n c R u wr)(b:Below wr.heap.size wr W)(own:jE V w.heap.size v d)(i:W.grownBy V u.ownBlock):ld w s f A n c d v V:=by
 obtain⟨j,l,m⟩:=h;have q:u.ownBlock≠some w.heap.size:=vR j l (by decide);have o:=l.below b;refine⟨own, ?_, ?_⟩
 ·exact o.qe (jG.grown (F:=u.ownBlock.toList) (jG.refl _ _) i (fun k a=>qX (by simp[a]))) (fun p=>q (by simpa using p))
 ·refine(bj m b).trans (lz i ?_ (fun k a=>?_))
  ·exact qO m.size b.size
  ·rcases j.2 with⟨rfl,_⟩|⟨g,r,t,rfl,y,_⟩
   ·cases a
   ·have:g=k:=(by simpa[Value.ownBlock] using a);omega
theorem ld.cells{w wr:World}{s:Tw}{f:Int}{A:Option Addr}{n c:Nat}{R:List jJ}{u:Value}(h:ld w s f A n c R u wr):wr.cell? ⟨w.heap.size,0,none⟩=some (.string s)/\wr.cell? ⟨w.heap.size,1,none⟩=some (.int .i64 f):=⟨h.2.1.cell 0,h.2.1.cell 1⟩
theorem GV(seed:Nat)(s:Tw)(f:Int)(A:Option Addr)(n c:Nat)(q:Int)(w:World)(R:seed<18446744073709551616)(Q:s.size<=maxLen)(U:0<=f/\f<=1073741824)(X:n<=300):
  Calls prog 16 #[.int .u64 (seed:Nat),.agg #[.string s,.int .i64 f,.slice A n c],.int .i64 q] w (yd w (br seed s f n q)):=by
 unfold yd;rw[rW];have O:=qQ (fun W=>Lo seed s W R Q);have D:=(Below.refl w.heap.size w).alloc (qK _) (.cells #[.string s,.int .i64 f,.slice A n c] 53);have r:Hid (ld w s f A n c [] (.slice none 0 0) (w.alloc (.cells #[.string s,.int .i64 f,.slice A n c] 53))):=qQ ⟨jE.nil _ _,jY.new _ _ _,D⟩;obtain⟨G,S⟩:∃G,w.alloc (.cells #[.string s,.int .i64 f,.slice A n c] 53)=G:=⟨_,rfl⟩
 rw[S]at r;clear D;go_enter func16,ntmps16;go_wp2;go_loopw [7,8] (fun u i wr=>∃k:Nat,k<=n/\i = .int .i64 k/\(∃B d,u = .slice B k d)/\ld w s f A n c (br seed s f k q) u wr) (fun _ i _=>n-(intOf i).toNat)
 case atStart=>exact⟨0,qF _,rfl,⟨none,0,rfl⟩,r.out⟩
 case round =>
  obtain⟨k,V,rfl,⟨B,d,rfl⟩,b⟩:=hrel;have a:=b.2.1;have Z:=a.cell 0;have k1:=a.cell 1;have k2:=a.cell 2;by_cases P:k<n
  ·have T:(k:Int)<(n:Int):=(by omega);have v:=qQ b;have z:Hid (∀W,Below wr.heap.size wr W->W.cell? ⟨w.heap.size,0,none⟩=some (.string s)/\W.cell? ⟨w.heap.size,1,none⟩=some (.int .i64 f)):=qQ fun W j=>⟨(a.below j).cell 0,(a.below j).cell 1⟩
   have Y:=z.out wr (Below.refl _ _);have t:=qQ (rW seed s f k q);have J:=qQ (fun W (j:Below wr.heap.size wr W)=>(show w.heap.size<=W.heap.size from qO b.2.2.size j.size));have I:Hid (IntKind.i64.wrap (f+(k:Int))=f+(k:Int)):=qQ (by rw[IntKind.wrap_i64];omega);clear b a;go_upto_region 5 with fail
   go_region_held_law (fun W=>W.cell? ⟨w.heap.size,0,none⟩=some (.string s)/\W.cell? ⟨w.heap.size,1,none⟩=some (.int .i64 f))
    (first | (with_reducible assumption) | ((with_reducible refine z.out _ ?_);(repeat' (first | (with_reducible exact Below.refl _ _) | (with_reducible refine Below.drew ?_) | (with_reducible refine bd ?_ _)));done) | fail)
    (first
    | (go_at_call 67;((with_reducible refine(O.out _).mono ?_);rintro e w'⟨rfl,rfl⟩))
    | (refine oA (l:=br seed s f k q) (m:=[⟨uq seed s.data.toList,IntKind.i64.wrap (f+(k:Int)),q⟩]) (by rfl) _ _ (by rfl) (by rfl) (by rfl) (jE.below v.out.1 (Below.drew (bd (Below.refl _ _) _)) (qK _)) (ju.drew (oY _ ⟨uq seed s.data.toList,IntKind.i64.wrap (f+(k:Int)),q⟩)) (by rw[t.out];simp only[List.length_cons,List.length_nil];omega) (J.out _ (Below.drew (bd (Below.refl _ _) _))) ?_;intro F K o C L;have g:=v.out.more (Below.drew (bd (Below.refl _ _) _)) o C;have N:=g.cells)
    | fail)
   all_goals
    have p:=qQ (show(∃B d,F = .slice B (k+1) d)/\ld w s f A n c (br seed s f (k+1) q) F K from⟨by have:=jE.shape o;rw[qI,t.out]at this;obtain⟨H,M,e,-⟩:=this;exact⟨H,M,e⟩,by rw[I.out]at g;rw[Sf];exact g⟩);clear o C L g N;go_wp2;go_roundw
    case rel=>exact⟨k+1,by omega,by go_num,p.out.1,p.out.2⟩
    case measure=>simp[intOf];omega
  ·obtain rfl:k=n:=(by omega);have T:¬(k:Int)<(k:Int):=(by omega);have y:=qQ b;clear P b a;go_wp2;go_ret;exact⟨B,d,rfl,y.out.1,y.out.2.2⟩
theorem Sh(V W:Value)(a b:List jJ)(w:World)(Q:ju w V a)(S:ju w W b)(hm:a.length<=1000000)(o:b.length<=1000000):
  Calls prog 73 #[V,W] w (UG (decide (a=b)) w):=by
 obtain⟨A,oa,ca,rfl,-,K⟩:=Q.form;obtain⟨B,ob,cb,rfl,-,L⟩:=S.form;have X:=qQ K;have FB:=qQ L;clear Q S K L;by_cases f:a.length=b.length
 case neg =>
  have e:decide (a=b)=false:=qW (fun h=>f (by rw[h]));rw[e];have t:((a.length:Int) != (b.length:Int))=true:=by simp;omega
  have t2:(a.length != b.length)=true:=by simp;omega
  clear e f;go_enter func73,ntmps73;go_wp2;go_ret;exact⟨rfl,0,rfl⟩
 obtain⟨n,g⟩:∃n,n=a.length:=⟨_,rfl⟩
 have l:=qQ g;have D:=qQ (g.trans f);rw[<-g]at hm ⊢;rw[<-f,<-g]at o ⊢;clear f g o;go_enter func73,ntmps73;go_wp2;go_loopw [5] (fun i wr=>∃k m:Nat,k<=n/\i = .int .i64 k/\(∀j x y,j<k->a[j]? = some x->b[j]? = some y->x=y)/\wr=w.drewN m) (fun i _=>n-(intOf i).toNat)
 case atStart=>exact⟨0,0,qF _,rfl,fun j x y Z=>by omega,rfl⟩
 case round =>
  obtain⟨k,m,o,rfl,R,rfl⟩:=hrel;have C:=qQ R;clear R;by_cases p:k<n
  ·have l1:(k:Int)<(n:Int):=(by omega);obtain⟨x,s⟩:∃x,a[k]? = some x:=⟨_,qC (by rw[<-l.out];exact p)⟩
   obtain⟨y,z⟩:∃y,b[k]? = some y:=⟨_,qC (by rw[<-D.out];exact p)⟩
   obtain⟨ba,rfl,-,H,I,J⟩:=X.out k _ s;obtain⟨bb,rfl,-,M,N,O⟩:=FB.out k _ z;have F:=qQ s;have G:=qQ z;clear s z;have T:=fun w=>Oj x y w
   by_cases d:x=y
   ·rw[qA d]at T;have Y:=qQ d;clear d;obtain⟨xh,xv,xp⟩:=x;obtain⟨yh,yv,yp⟩:=y;simp only at H I J M N O;go_wp2;go_quiet (fail);go_wp2;refine⟨⟨k+1,_,by omega,by go_num,fun j u v Z q r=>?_,rfl⟩,by simp[intOf];omega⟩;rcases Nat.lt_or_ge j k with c|c
    ·exact C.out j u v c q r
    ·obtain rfl:j=k:=(by omega);rw[F.out]at q;rw[G.out]at r;rw[<-qg q,<-qg r];exact Y.out
   ·have e:decide (a=b)=false:=qW (fun h=>d (by have P:=F.out;rw[h,G.out]at P;exact(qg P).symm));rw[qW d]at T;have E:=qQ e;clear e d;obtain⟨xh,xv,xp⟩:=x;obtain⟨yh,yv,yp⟩:=y;simp only at H I J M N O;go_wp2;go_quiet (fail);go_wp2;go_ret;exact⟨by rw[E.out];rfl,_,World.drewN_drewN _ _ _⟩
  ·have e:decide (a=b)=true:=qA (PH (by rw[<-l.out,<-D.out]) (fun j x y U hy=>C.out j x y (by have:=(qP.1 U).1;rw[<-l.out]at this;omega) U hy));have l1:decide ((k:Int)<(n:Int))=false:=qW (by omega);have l2:decide (k<n)=false:=qW (by omega);have E:=qQ e;clear e p;go_wp2;go_ret;exact⟨by rw[E.out];rfl,_,rfl⟩
end
end Go.Proofs.YtokbfellcadkpaaGreat

import Derived.Test.YthejglbnkmimjaaGreatPp16
import Derived.Test.YthejglbnkmimjaaGreatPp15
set_option linter.unusedVariables false
set_option maxRecDepth 100000
set_option maxHeartbeats 9000000
namespace Go.Proofs.YthejglbnkmimjaaGreat
open Tryz
section
open Go.RowKit Go.Shelf
def j9(n c:Int)(d:Nat)(v:Value):Value:=.agg #[.int .i64 n,.int .i64 c,.int .u64 (d:Nat),v]
abbrev kF(n c:Int)(d:Nat)(v:Value):Obj:=.cells #[.int .i64 n,.int .i64 c,.int .u64 (d:Nat),v] 47
theorem O0(n c:Int)(d:Nat)(R:LvL)(a:0<=n)(b:n<=1000000)(f:0<=c)(i:c<=2147483647)(j:du R=true):bP ⟨n,c,d,R⟩=true↔∀x∈R.flatten,x<n:=by
 unfold bP;rw[decide_eq_true_iff];exact⟨fun h=>h.2.2.2.2.2,fun h=>⟨a,b,f,i,of_decide_eq_true j,h⟩⟩
theorem O1{n c:Int}{d:Nat}{R:LvL}(a:du R=false):bP ⟨n,c,d,R⟩=false:=qG fun h=>(of_decide_eq_false a) h.2.2.2.2.1
theorem O2{n c:Int}{d:Nat}{R:LvL}(h:n<0∨1000000<n∨c<0∨2147483647<c):bP ⟨n,c,d,R⟩=false:=qG fun j=>by
 obtain⟨a,b,f,i,-⟩:=j;simp only at a b f i;omega
theorem gC{B:Nat}{w w':World}{p:Addr}{v:Value}(a:Below B w w')(b:p.block<B)(h:w.cell? p=some v):w'.cell? p=some v:=(a.cell b).trans h
theorem O3(n c:Int)(d:Nat)(A:Option Addr)(k cp:Nat)(R:LvL)(w:World)(a:n<0∨1000000<n∨c<0∨2147483647<c):
  Calls prog 192 #[j9 n c d (.slice A k cp)] w fun e w'=>e = .returned (.bool (bP ⟨n,c,d,R⟩))/\Below w.heap.size w w':=by
 rw[O2 a];have b:=(Below.refl w.heap.size w).alloc (qZ _) (kF n c d (.slice A k cp));unfold j9;by_cases f:n<0
 ·have m:decide (n<0)=true:=qW f;clear a;go_enter func192,ntmps192;go_wp2;go_ret;exact⟨rfl,b⟩
 ·have m:decide (n<0)=false:=qG f;by_cases i:1000000<n
  ·have o:decide (1000000<n)=true:=qW i;clear a;go_enter func192,ntmps192;go_wp2;go_ret;exact⟨rfl,b⟩
  ·have o:decide (1000000<n)=false:=qG i;by_cases j:c<0
   ·have q:decide (c<0)=true:=qW j;clear a;go_enter func192,ntmps192;go_wp2;go_ret;exact⟨rfl,b⟩
   ·have q:decide (c<0)=false:=qG j;have l:2147483647<c:=(by omega);have r:decide (2147483647<c)=true:=qW l;clear a;go_enter func192,ntmps192;go_wp2;go_ret;exact⟨rfl,b⟩
theorem QV(n c:Int)(d:Nat)(A:Option Addr)(k cp:Nat)(R:LvL)(w:World)(h:kQ w (.slice A k cp) R)(I:R.flatten.length<=100000)(Y:R.length<=100000):
  Calls prog 192 #[j9 n c d (.slice A k cp)] w fun e w'=>e = .returned (.bool (bP ⟨n,c,d,R⟩))/\Below w.heap.size w w':=by
 by_cases K:n<0∨1000000<n∨c<0∨2147483647<c
 ·exact O3 n c d A k cp R w K
 have q0:decide (n<0)=false:=qG (by omega);have q1:decide (1000000<n)=false:=qG (by omega);have q2:decide (c<0)=false:=qG (by omega);have q3:decide (2147483647<c)=false:=qG (by omega);have f:=(Below.refl w.heap.size w).alloc (qZ _) (kF n c d (.slice A k cp));have Q:=qQ f;have C:=h.below f (qZ _);have r:=qQ (OL _ R _ C I Y);unfold j9;cases o:du R with
 | false =>
   rw[o]at r;rw[O1 o];clear h f C o K;go_enter func192,ntmps192;go_wp2_with fail;refine r.out.mono ?_;rintro e N⟨rfl,a⟩;have z:=qQ a;clear a;go_wp2;go_ret;exact⟨rfl,bj Q.out z.out⟩
 | true =>
   rw[o]at r;have T:=qQ (O0 n c d R (by omega) (by omega) (by omega) (by omega) o);have u:=qQ (fun W (hW:Below (w.heap.size+1) (w.alloc (kF n c d (.slice A k cp))) W)=>pP _ R W (C.below hW (by simp)) I Y);obtain⟨m,J⟩:∃m,m=R.flatten.length:=⟨_,rfl⟩
   have G:=qQ J;unfold bl at u;rw[<-J]at u I;clear J;generalize bP ⟨n,c,d,R⟩=q at*;generalize R.flatten=l at*;have c0:(w.alloc (kF n c d (.slice A k cp))).cell? ⟨w.heap.size,0,none⟩=some (.int .i64 n):=World.cell?_alloc_at _ _ _ _ rfl;have B:(w.alloc (kF n c d (.slice A k cp))).cell? ⟨w.heap.size,3,none⟩=some (.slice A k cp):=World.cell?_alloc_at _ _ _ _ rfl;have C0:=qQ c0;have C3:=qQ B;clear h f C o K c0 B;go_enter func192,ntmps192;go_wp2_with fail;refine r.out.mono ?_;rintro e N⟨rfl,a⟩;rw[World.size_alloc]at a;have c0:=gC a (show w.heap.size<w.heap.size+1 by omega) C0.out;have B:=gC a (show w.heap.size<w.heap.size+1 by omega) C3.out;have ad:=a.size;rw[World.size_alloc]at ad;have z:=qQ (Q.out.trans (a.mono (by simp)));have O:=qQ (u.out N a);clear a u r;go_wp2_with fail;refine O.out.mono ?_;rintro e w2⟨A2,c2,rfl,hr,H⟩;have S:=qQ (bj z.out (H.mono (by have:=z.out.size;omega)));have d0:=gC H (show w.heap.size<N.heap.size by omega) c0;obtain⟨A',off,ac,V,-,hc⟩:=(jP.qw hr).form;have X:(Value.slice A2 m c2) = .slice A' m ac:=(by rw[V,<-G.out]);obtain⟨rfl,-,rfl⟩:=Value.slice.inj X;have HC:=qQ hc;clear hr H hc O c0 B V X;go_wp2;go_loopw [33] (fun i wr=>∃j:Nat,j<=m/\i = .int .i64 j/\(∀i x,i<j->l[i]? = some x->x<n)/\wr=w2) (fun i _=>m-(intOf i).toNat)
   case atStart=>exact⟨0,qH _,rfl,fun i x F=>(by omega),rfl⟩
   case round =>
    obtain⟨j,hj,rfl,Z,rfl⟩:=hrel;have P:=qQ Z;clear Z;by_cases aa:j<m
    ·have l1:(j:Int)<(m:Int):=(by omega);obtain⟨x,t⟩:∃x,l[j]? = some x:=⟨_,qD (by rw[<-G.out];exact aa)⟩
     obtain⟨b,rfl,f,cx⟩:=HC.out j x t;have U:=qQ t;clear t f;by_cases ab:n<=x
     ·have qf:q=false:=by
       cases q with
       | false=>rfl
       | true=>have:=T.out.1 rfl x (qO U.out);omega
      subst qf;have q4:decide (n<=x)=true:=qW ab;go_wp2;go_ret;exact⟨rfl,S.out⟩
     ·have q4:decide (n<=x)=false:=qG ab;go_wp2;refine⟨⟨j+1,by omega,by go_num,fun i y F L=>?_,trivial⟩,by simp[intOf];omega⟩;rcases Nat.lt_or_ge i j with e|e
      ·exact P.out i y e L
      ·obtain rfl:i=j:=(by omega);rw[U.out]at L;have:=qv L;omega
    ·obtain rfl:j=m:=(by omega);have l1:¬(j:Int)<(j:Int):=by omega
     have qt:q=true:=T.out.2 fun x t=>by
      obtain⟨i,F⟩:=List.getElem?_of_mem t;exact P.out i x (by have:=(qM.1 F).1;rw[<-G.out]at this;exact this) F
     subst qt;clear aa;go_wp2;go_ret;exact⟨rfl,S.out⟩
end
section
open Go.RowKit
def cX(w0:World)(E:List Nat)(w:World)(v:Value)(R:LvL):Prop:=∀W,Below w0.heap.size w0 W->zt E w W->kQ W v R
section
variable {At:jK}{w0 w w':World}{gd:Nat}{D:zr}{E E':List Nat}{v:Value}{R:LvL}
theorem cX.now(h:cX w0 E w v R)(a:DS At w0 gd D E w):kQ w v R:=h w a.kept (zt.refl _ _)
theorem cX.step(h:cX w0 E w v R)(b:zt E w w'):cX w0 E w' v R:=fun W a k=>h W a (b.trans k)
end
def QY(At:jK)(w0:World)(gd:Nat)(D:zr)(E:List Nat)(w:World)(e:Ending)(w':World):Prop :=
 ∃(x0 x1:Int) (x2:Nat) (A:Option Addr) (n c:Nat) (R:LvL),e = .returned (.tuple #[j9 x0 x1 x2 (.slice A n c),.int .i64 (vE D)])/\j5 D=⟨x0,x1,x2,R⟩/\n=R.length/\kQ w' (.slice A n c) R/\R.length<=300/\R.flatten.length<=100000/\x2<18446744073709551616/\DS At w0 gd (gV D) E w'/\zt E w w'
def VD(At:jK)(w0:World)(gd:Nat)(D:zr)(m:jS)(E:List Nat)(w:World)(e:Ending)(w':World):Prop :=
 ∃v,e = .returned v/\yQ w' v (ye (D.l.map zi.name) m)/\DS At w0 gd D (jA v++E) w'/\zt E w w'
structure dS(At:jK):Prop where
 load:∀ {w0 w:World} {gd:Nat} {D:zr} {E:List Nat},DS At w0 gd D E w->WfP D->D.count<=1099511627776 ->
  Calls prog 132 #[ptr gd] w (QY At w0 gd D E w)
 swap:∀ {w0 w:World} {gd:Nat} {D:zr} {E:List Nat} (n c:Int) (d:Nat) (A:Option Addr) (k cp:Nat) (R:LvL),DS At w0 gd D E w->WfP D->cX w0 E w (.slice A k cp) R->k=R.length->R.flatten.length<=100000->R.length<=100000->d<18446744073709551616 ->
  Calls prog 180 #[ptr gd,j9 n c d (.slice A k cp)] w (yJ At w0 gd (err (bu D ⟨n,c,d,R⟩).1) (bu D ⟨n,c,d,R⟩).2 E w)
 clean:∀ {w0 w:World} {gd:Nat} {D:zr} {E:List Nat} (n c:Int) (d:Nat) (A:Option Addr) (k cp:Nat) (R:LvL),DS At w0 gd D E w->WfP D->cX w0 E w (.slice A k cp) R->k=R.length->R.flatten.length<=100000->R.length<=100000 ->
  Calls prog 83 #[ptr gd,j9 n c d (.slice A k cp)] w (yJ At w0 gd (err (fU D ⟨n,c,d,R⟩).1) (fU D ⟨n,c,d,R⟩).2 E w)
theorem VE{At:jK}(api:jY At)(w:World)(c:Nat)(j:c<=1048576):Calls prog 24 #[.int .i64 (c:Nat)] w fun e w'=>∃g,e = .returned (.tuple #[ptr g,.int .i64 0])/\DS At w g (yf c) [] w':=by
 refine(api.zf w.heap.size c w (qZ _) j).mono ?_;rintro e w'⟨g,F,a,d,l,f⟩;exact⟨g,a,F,d,f.below (qZ _) (fun x k=>(by cases k)),fun b i=>(by cases i)⟩
theorem yQ.own{w:World}{v:Value}{l:List Tw}(h:yQ w v l):∀b∈jA v,b<w.heap.size∨l=[]:=by
 intro b a;rcases h with⟨rfl,-⟩|⟨g,off,f,rfl,-,-,c,-⟩
 ·exact qY rfl
 ·have d:=jq.1 a;obtain rfl:g=b:=by simpa[Value.ownBlock] using d
  exact qX c
section
variable {At:jK}(api:jY At){w0 w:World}{gd:Nat}{D:zr}{E:List Nat}
include api
theorem O4(h:DS At w0 gd D E w)(ok:WfP D):Calls prog 98 #[ptr gd] w fun e w'=>∃v B,e = .returned v/\yQ w' v (D.l.map zi.name)/\DS At w0 gd D (B++E) w'/\zt E w w'/\(D.l≠[]->∀b∈jA v,b∈B):=by
 obtain⟨F,o,q,c⟩:=h;refine(api.names o ok.ok).mono ?_;rintro e w'⟨f,v,j,i,z,m,A,d⟩;have t:zt E w w':=⟨d.size,fun b a=>d.block b (c b a).2 (c b a).1⟩
 have y:∀b∈E,b ∉ f/\b<w'.heap.size:=fun b a=>⟨fun C=>by
  rcases A b C with k|k
  ·exact(c b a).1 k
  ·have:=(c b a).2;omega,qP (c b a).2 d.size⟩
 have r:=q.trans (d.below q.size (fun x H=>(api.low o x H).1));by_cases u:D.l=[]
 ·exact⟨v,[],j,i,⟨f,m,r,y⟩,t,fun h=>absurd u h⟩
 ·refine⟨v,jA v,j,i,⟨f,m,r,fun b a=>?_⟩,t,fun _ b a=>a⟩;rcases qC.1 a with a|a
  ·have G:=jq.1 a;rcases i.own b a with h|h
   ·exact⟨(z b G).2,h⟩
   ·exact absurd (List.map_eq_nil_iff.1 h) u
  ·exact y b a
end
theorem DS.box{At:jK}(api:jY At){w0 w:World}{gd:Nat}{D:zr}{E:List Nat}(h:DS At w0 gd D E w)(o:Obj):DS At w0 gd D E (w.alloc o):=h.below api ((Below.refl w.heap.size w).alloc (qZ _) o)
theorem zt.ints{E:List Nat}{w w':World}{v:Value}{l:List Int}(h:zt E w w')(a:ju w v l)(m:∀b∈jA v,b∈E):ju w' v l:=by
 rcases a with a|⟨b,off,c,rfl,d,f,j,k⟩
 ·exact qX a
 ·exact qY ⟨b,off,c,rfl,d,f,qP j h.size,fun i x o=>(World.cell?_of_block (w:=w) (h.block b (m b (jq.2 rfl)))).trans (k i x o)⟩
end
section
open Go.RowKit Go.Shelf
structure RdB(w:World)(s:Tw)(p:Nat)(x0 x1:Int)(x2:Nat)(v:Value)(wr:World):Prop where
 xA:Below w.heap.size w wr
 b2:za wr w.heap.size 47 #[.int .i64 0,.int .i64 0,.int .u64 0,.slice none 0 0]
 b3:za wr (w.heap.size+1) 324 #[.string (vB s p)]
 b4:za wr (w.heap.size+2) 47 #[.int .i64 x0,.int .i64 x1,.int .u64 (x2:Nat),v]
section
variable {w wr:World}{s:Tw}{p x2:Nat}{x0 x1:Int}{v:Value}
theorem RdB.drew(h:RdB w s p x0 x1 x2 v wr):RdB w s p x0 x1 x2 v wr.drew:=⟨h.xA.drew,h.b2,h.b3,h.b4⟩
theorem RdB.alloc(h:RdB w s p x0 x1 x2 v wr)(o:Obj):RdB w s p x0 x1 x2 v (wr.alloc o):=⟨h.xA.alloc h.xA.size o,h.b2.alloc o,h.b3.alloc o,h.b4.alloc o⟩
theorem RdB.set(h:RdB w s p x0 x1 x2 v wr){g i:Nat}(a:w.heap.size+3<=g)(u:Value):RdB w s p x0 x1 x2 v (wr.setCell ⟨g,i,none⟩ u) :=
 ⟨h.xA.setCell (p:=⟨g,i,none⟩) (show w.heap.size<=g by omega) u,h.b2.qe (p:=⟨g,i,none⟩) (show w.heap.size≠g by omega) u,h.b3.qe (p:=⟨g,i,none⟩) (show w.heap.size+1≠g by omega) u,h.b4.qe (p:=⟨g,i,none⟩) (show w.heap.size+2≠g by omega) u⟩
theorem RdB.rest(h:RdB w s p x0 x1 x2 v wr)(q:Nat):RdB w s q x0 x1 x2 v (wr.setCell ⟨w.heap.size+1,0,none⟩ (.string (vB s q))) :=
 ⟨h.xA.setCell (p:=⟨w.heap.size+1,0,none⟩) (show w.heap.size<=w.heap.size+1 by omega) _,h.b2.qe (p:=⟨w.heap.size+1,0,none⟩) (show w.heap.size≠w.heap.size+1 by omega) _,h.b3.put 0 _,h.b4.qe (p:=⟨w.heap.size+1,0,none⟩) (show w.heap.size+2≠w.heap.size+1 by omega) _⟩
theorem RdB.zj(h:RdB w s p x0 x1 x2 v wr)(y:Int):RdB w s p y x1 x2 v (wr.setCell ⟨w.heap.size+2,0,none⟩ (.int .i64 y)) :=
 ⟨h.xA.setCell (p:=⟨w.heap.size+2,0,none⟩) (show w.heap.size<=w.heap.size+2 by omega) _,h.b2.qe (p:=⟨w.heap.size+2,0,none⟩) (show w.heap.size≠w.heap.size+2 by omega) _,h.b3.qe (p:=⟨w.heap.size+2,0,none⟩) (show w.heap.size+1≠w.heap.size+2 by omega) _,h.b4.put 0 _⟩
theorem RdB.zE(h:RdB w s p x0 x1 x2 v wr)(y:Int):RdB w s p x0 y x2 v (wr.setCell ⟨w.heap.size+2,1,none⟩ (.int .i64 y)) :=
 ⟨h.xA.setCell (p:=⟨w.heap.size+2,1,none⟩) (show w.heap.size<=w.heap.size+2 by omega) _,h.b2.qe (p:=⟨w.heap.size+2,1,none⟩) (show w.heap.size≠w.heap.size+2 by omega) _,h.b3.qe (p:=⟨w.heap.size+2,1,none⟩) (show w.heap.size+1≠w.heap.size+2 by omega) _,h.b4.put 1 _⟩
theorem RdB.zO(h:RdB w s p x0 x1 x2 v wr)(y:Nat):RdB w s p x0 x1 y v (wr.setCell ⟨w.heap.size+2,2,none⟩ (.int .u64 (y:Nat))) :=
 ⟨h.xA.setCell (p:=⟨w.heap.size+2,2,none⟩) (show w.heap.size<=w.heap.size+2 by omega) _,h.b2.qe (p:=⟨w.heap.size+2,2,none⟩) (show w.heap.size≠w.heap.size+2 by omega) _,h.b3.qe (p:=⟨w.heap.size+2,2,none⟩) (show w.heap.size+1≠w.heap.size+2 by omega) _,h.b4.put 2 _⟩
theorem RdB.x7(h:RdB w s p x0 x1 x2 v wr)(u:Value):RdB w s p x0 x1 x2 u (wr.setCell ⟨w.heap.size+2,3,none⟩ u) :=
 ⟨h.xA.setCell (p:=⟨w.heap.size+2,3,none⟩) (show w.heap.size<=w.heap.size+2 by omega) _,h.b2.qe (p:=⟨w.heap.size+2,3,none⟩) (show w.heap.size≠w.heap.size+2 by omega) _,h.b3.qe (p:=⟨w.heap.size+2,3,none⟩) (show w.heap.size+1≠w.heap.size+2 by omega) _,h.b4.put 3 _⟩
theorem RdB.take(h:RdB w s p x0 x1 x2 v wr)(d:s.size<=1100000)(k:Nat)(b:1<=k)(c:k<=8):
  Calls prog 284 #[.pointer (some ⟨w.heap.size+1,0,none⟩),.int .i64 (k:Nat)] wr fun e w'=>e = .returned (.int .u64 (num s p k:Nat))/\RdB w s (p+k) x0 x1 x2 v w'/\w'=wr.setCell ⟨w.heap.size+1,0,none⟩ (.string (vB s (p+k))) :=
 (XT s p k (w.heap.size+1) wr b c d (h.b3.cell 0) (h.b3.frozen 0)).mono fun e w' a=>⟨a.1,by rw[a.2];exact h.rest (p+k),a.2⟩
theorem RdB.zL(h:RdB w s p x0 x1 x2 v wr)(a:s.size<=1100000):Calls prog 284 #[.pointer (some ⟨w.heap.size+1,0,none⟩),.int .i64 4] wr fun e w'=>e = .returned (.int .u64 (num s p 4:Nat))/\RdB w s (p+4) x0 x1 x2 v w'/\w'=wr.setCell ⟨w.heap.size+1,0,none⟩ (.string (vB s (p+4))):=h.take a 4 (by decide) (by decide)
theorem RdB.zx(h:RdB w s p x0 x1 x2 v wr)(a:s.size<=1100000):Calls prog 284 #[.pointer (some ⟨w.heap.size+1,0,none⟩),.int .i64 8] wr fun e w'=>e = .returned (.int .u64 (num s p 8:Nat))/\RdB w s (p+8) x0 x1 x2 v w'/\w'=wr.setCell ⟨w.heap.size+1,0,none⟩ (.string (vB s (p+8))):=h.take a 8 (by decide) (by decide)
theorem RdB.z7(h:RdB w s p x0 x1 x2 v wr)(a:s.size<=1100000):Calls prog 284 #[.pointer (some ⟨w.heap.size+1,0,none⟩),.int .i64 1] wr fun e w'=>e = .returned (.int .u64 (num s p 1:Nat))/\RdB w s (p+1) x0 x1 x2 v w'/\w'=wr.setCell ⟨w.heap.size+1,0,none⟩ (.string (vB s (p+1))):=h.take a 1 (by decide) (by decide)
theorem RdB.cells(h:RdB w s p x0 x1 x2 v wr):wr.cell? ⟨w.heap.size+2,0,none⟩=some (.int .i64 x0)/\wr.cell? ⟨w.heap.size+2,1,none⟩=some (.int .i64 x1)/\wr.cell? ⟨w.heap.size+2,2,none⟩=some (.int .u64 (x2:Nat))/\wr.cell? ⟨w.heap.size+2,3,none⟩=some v/\(∀i,wr.frozen? ⟨w.heap.size+2,i,none⟩=false)/\w.heap.size+2<wr.heap.size :=
 ⟨h.b4.cell 0,h.b4.cell 1,h.b4.cell 2,h.b4.cell 3,fun i=>h.b4.frozen i,h.b4.lt⟩
end
theorem O5(s:Tw)(w:World)(m:s.size<=1100000):Calls prog 284 #[.pointer (some ⟨w.heap.size+1,0,none⟩),.int .i64 4] ((w.alloc (.cells #[.int .i64 0,.int .i64 0,.int .u64 0,.slice none 0 0] 47)).alloc (.cells #[.string s] 324))
  fun e w'=>e = .returned (.int .u64 (num s 0 4:Nat))/\w'.heap.size=w.heap.size+2/\RdB w s 4 0 0 0 (.slice none 0 0) (w'.alloc (.cells #[.int .i64 0,.int .i64 0,.int .u64 0,.slice none 0 0] 47)):=by
 have c:=za.new w 47 #[.int .i64 0,.int .i64 0,.int .u64 0,.slice none 0 0];have d:=c.alloc (.cells #[.string s] 324);have k:Below w.heap.size w ((w.alloc (.cells #[.int .i64 0,.int .i64 0,.int .u64 0,.slice none 0 0] 47)).alloc (.cells #[.string s] 324)):=((Below.refl _ _).alloc (qZ _) _).alloc (by simp) _;have a:=za.new (w.alloc (.cells #[.int .i64 0,.int .i64 0,.int .u64 0,.slice none 0 0] 47)) 324 #[.string s];generalize j:(w.alloc (.cells #[.int .i64 0,.int .i64 0,.int .u64 0,.slice none 0 0] 47)).alloc (.cells #[.string s] 324)=W at*;have o:W.heap.size=w.heap.size+2:=by rw[<-j];simp
 rw[World.size_alloc]at a;refine(XT s 0 4 (w.heap.size+1) W (by decide) (by decide) m ((a.cell 0).trans (by rw[Gx];rfl)) (a.frozen 0)).mono fun e w' l=>?_
 obtain⟨f,i⟩:=l;subst i;have b:(W.setCell ⟨w.heap.size+1,0,none⟩ (.string (vB s (0+4)))).heap.size=w.heap.size+2:=by rw[World.size_setCell];exact o
 have N:=za.new (W.setCell ⟨w.heap.size+1,0,none⟩ (.string (vB s (0+4)))) 47 #[.int .i64 0,.int .i64 0,.int .u64 0,.slice none 0 0];rw[b]at N;exact⟨f,b,(k.setCell (p:=⟨w.heap.size+1,0,none⟩) (show w.heap.size<=w.heap.size+1 by omega) _).alloc (by rw[b];omega) _,(d.qe (p:=⟨w.heap.size+1,0,none⟩) (show w.heap.size≠w.heap.size+1 by omega) _).alloc _,(a.put 0 _).alloc _,N⟩
theorem O6(n:Nat):(madeCells #[Value.int .i64 0] (n*1)).toList=(List.replicate n (0:Int)).map cq:=by
 rw[List.map_replicate];apply List.ext_getElem?;intro i;rw[Array.getElem?_toList,List.getElem?_replicate];by_cases h:i<n
 ·rw[qK h];unfold madeCells;simp[h,Nat.mod_one,cq]
 ·rw[qJ h,Array.getElem?_eq_none (by rw[size_madeCells];omega)]
theorem O7(n:Nat)(i:n<=1000000):∃Z:Array Value,(∀w:World,(Instr.makeSlice 37 (.int .u64 (n:Nat)) (.int .u64 (n:Nat))).run prog w = .ok (.slice (some ⟨w.heap.size,0,none⟩) n n) (w.alloc (.cells Z 3))) /\
  ∀w:World,jP (w.alloc (.cells Z 3)) w.heap.size (.slice (some ⟨w.heap.size,0,none⟩) n n) (List.replicate n 0):=by
 obtain⟨f,b,c,a,d⟩:=info_parts ny;refine⟨madeCells #[Value.int .i64 0] (n*1),fun w=>?_,fun w=>?_⟩
 ·have h:=run_makeSlice (P:=prog) w 37 3 f _ Tryz.underlying37 b c .u64 .u64 (n:Int) (n:Int) (by omega) (Int.le_refl _) (by rw[a];omega) (by rw[d];omega) (by omega);rw[a,qh]at h;exact h
 ·have h:=World.ownsRow_lit (base:=w.heap.size) (e:=3) (size:=1) w (madeCells #[Value.int .i64 0] (n*1)) n (qZ _) (by unfold maxLen;omega) (size_madeCells _ _);unfold jP;rw[List.length_replicate,<-O6];exact h
theorem O8(n:Nat)(i:n<=1000000):∃Z:Array Value,(∀w:World,(Instr.makeSlice 45 (.int .u64 (n:Nat)) (.int .u64 (n:Nat))).run prog w = .ok (.slice (some ⟨w.heap.size,0,none⟩) n n) (w.alloc (.cells Z 37))) /\
  ∀w:World,j4 (w.alloc (.cells Z 37)) w.heap.size (.slice (some ⟨w.heap.size,0,none⟩) n n) (List.replicate n lS):=by
 obtain⟨f,b,c,a,d⟩:=info_parts KL;refine⟨madeCells #[Value.slice none 0 0] (n*1),fun w=>?_,fun w=>?_⟩
 ·have h:=run_makeSlice (P:=prog) w 45 37 f _ Tryz.underlying45 b c .u64 .u64 (n:Int) (n:Int) (by omega) (Int.le_refl _) (by rw[a];omega) (by rw[d];omega) (by omega);rw[a,qh]at h;exact h
 ·have h:=World.ownsRow_lit (base:=w.heap.size) (e:=37) (size:=1) w (madeCells #[Value.slice none 0 0] (n*1)) n (qZ _) (by unfold maxLen;omega) (size_madeCells _ _);unfold j4;rw[List.length_replicate,<-OT];exact h
theorem QU{W:World}{p q:Addr}{u:Value}(h:q.block≠p.block):(W.setCell p u).cell? q=W.cell? q:=by
 unfold World.cell?;rw[heap_setCell_other W p q.block u h]
theorem O9{W:World}{q:Addr}{o:Obj}(h:q.block<W.heap.size):(W.alloc o).cell? q=W.cell? q:=((Below.refl W.heap.size W).alloc (qZ _) o).cell h
structure RdR(base g n:Nat)(M:List LvS)(wr:World):Prop where
 row:j4 wr base (.slice (some ⟨g,0,none⟩) n n) M
 own:bB wr base M
 apart:pG M
 len:M.length=n
 gb:base<=g
section
variable {base g n:Nat}{M:List LvS}{wr:World}
theorem RdR.drew(h:RdR base g n M wr):RdR base g n M wr.drew:=⟨h.row,h.own,h.apart,h.len,h.gb⟩
theorem RdR.alloc(h:RdR base g n M wr)(o:Obj):RdR base g n M (wr.alloc o):=⟨j4.alloc h.row o,fun x a=>jP.below (h.own x a) ((Below.refl wr.heap.size wr).alloc (qZ _) o) (qZ _),h.apart,h.len,h.gb⟩
theorem RdR.ne(h:RdR base g n M wr){i c a:Nat}{l:List Int}(b:M[i]? = some ⟨.slice (some ⟨a,0,none⟩) c c,l⟩):g≠a:=fun e=>cG h.row (h.own _ (qO b)) tS a rfl (by rw[e];rfl)
theorem RdR.start{w:World}{Z:Array Value}(n:Nat)(h:j4 (w.alloc (.cells Z 37)) w.heap.size (.slice (some ⟨w.heap.size,0,none⟩) n n) (List.replicate n lS)):RdR w.heap.size w.heap.size n (List.replicate n lS) (w.alloc (.cells Z 37)) :=
 ⟨h,fun x a=>by rw[List.eq_of_mem_replicate a];exact jP.nil _ _,fun i j x y a d c g b=>by
  rw[List.eq_of_mem_replicate (qO a)]at b;exact(by cases b),List.length_replicate,qZ _⟩
theorem RdR.qe(h:RdR base g n M wr){b i:Nat}(c:b<base)(u:Value):RdR base g n M (wr.setCell ⟨b,i,none⟩ u) :=
 ⟨vW h.row (fun e=>by have:=j4.block h.row b e;omega) u,fun x a=>vW (h.own x a) (fun e=>by have:=(jP.block (h.own x a) b e).1;omega) u,h.apart,h.len,h.gb⟩
theorem RdR.at_(h:RdR base g n M wr){i:Nat}{x:LvS}(a:M[i]? = some x):wr.cell? ⟨g,i,none⟩=some x.v/\wr.frozen? ⟨g,i,none⟩=false:=j4.cell h.row h.len.symm a
theorem RdR.lay(h:RdR base g n M wr){i c:Nat}{Z:Array Value}(d:base<=wr.heap.size)
  (l:jP (wr.alloc (.cells Z 3)) wr.heap.size (.slice (some ⟨wr.heap.size,0,none⟩) c c) (List.replicate c 0)):
  RdR base g n (M.set i ⟨.slice (some ⟨wr.heap.size,0,none⟩) c c,List.replicate c 0⟩) ((wr.alloc (.cells Z 3)).setCell ⟨g,i,none⟩ (.slice (some ⟨wr.heap.size,0,none⟩) c c)):=by
 have b:=j4.alloc h.row (.cells Z 3);have m:=j4.put b h.len.symm (i:=i) ⟨.slice (some ⟨wr.heap.size,0,none⟩) c c,List.replicate c 0⟩;refine⟨m,fun y a=>?_,h.apart.set fun q f j y r a k=>?_,by rw[List.length_set];exact h.len,h.gb⟩
 ·rcases List.mem_or_eq_of_mem_set a with a|rfl
  ·exact jP.xE (jP.below (h.own y a) ((Below.refl wr.heap.size wr).alloc (qZ _) _) (qZ _)) b
  ·exact jP.xE (jP.down l d) b
 ·have o:=(jP.block (h.own y (qO a)) q k).2;have:wr.heap.size=q:=by simpa[Value.ownBlock] using f
  omega
theorem RdR.put(h:RdR base g n M wr){i j c a:Nat}{l:List Int}(f:M[i]? = some ⟨.slice (some ⟨a,0,none⟩) c c,l⟩)(o:c=l.length)(y:Int):
  RdR base g n (M.set i ⟨.slice (some ⟨a,0,none⟩) c c,l.set j y⟩) (wr.setCell ⟨a,j,none⟩ (.int .i64 y))/\base<=a/\wr.frozen? ⟨a,j,none⟩=false/\(j<c->∃u,wr.cell? ⟨a,j,none⟩=some u):=by
 subst o;have I:=h.own _ (qO f);have d:jP wr base (.slice (some ⟨a,0,none⟩) l.length l.length) l:=I;obtain⟨t,J⟩:=jP.block d a rfl;have hst:=(d.stored j (.int .i64 y)).1
 have H:jP (wr.setCell ⟨a,j,none⟩ (.int .i64 y)) base (.slice (some ⟨a,0,none⟩) l.length l.length) (l.set j y):=by
  unfold jP;rw[List.length_set,List.map_set];exact hst
 have A:i<M.length:=(qM.1 f).1;have r:j4 (wr.setCell ⟨a,j,none⟩ (.int .i64 y)) base (.slice (some ⟨g,0,none⟩) n n) M:=vW h.row (cG h.row d tS a rfl) _;refine⟨⟨?_,fun z m=>?_,h.apart.set fun q F k z b m G=>?_,by rw[List.length_set];exact h.len,h.gb⟩,t,d.frozenAt j,fun B=>⟨cq l[j],(d.cellAt j (by omega)).trans (by rw[qz,qD B];rfl)⟩⟩
 ·have e:uz (M.set i ⟨.slice (some ⟨a,0,none⟩) l.length l.length,l.set j y⟩)=uz M:=by
   unfold uz;rw[List.map_set];apply List.ext_getElem?;intro k;rw[List.getElem?_set];split
   ·rename_i e;subst e;rw[qK (by rw[qj];exact A),qz,f];rfl
   ·rfl
  unfold j4;rw[List.length_set,e];exact r
 ·obtain⟨k,b⟩:=List.getElem?_of_mem m;rw[List.getElem?_set]at b;split at b
  ·obtain rfl:=qv b;exact H
  ·rename_i C;exact vW (h.own z (qO b)) (fun e=>h.apart i k _ z f b C a rfl e) _
 ·exact h.apart i k _ z f m (fun e=>b e.symm) q F G
end
end
section
open Go.RowKit Go.Shelf
def VF(w:World)(s:Tw)(e:Ending)(w':World):Prop:=∃(x0 x1:Int) (x2:Nat) (A:Option Addr) (n c:Nat) (R:LvL),e = .returned (j9 x0 x1 x2 (.slice A n c))/\n=R.length/\kz w' w.heap.size (.slice A n c) R/\Below w.heap.size w w'/\mH s ⟨x0,x1,x2,R⟩/\x2<18446744073709551616/\R.flatten.length<=100000/\R.length<=300
def RdL(s:Tw)(n i p:Nat)(M:List LvS):Prop:=i<=n/\∃L:LvL,L.length=i/\lvl M=L++List.replicate (n-i) []/\dr s i p L/\∀x∈L,x.length<=255
theorem RdL.start(s:Tw)(n:Nat):RdL s n 0 21 (List.replicate n lS):=by
 refine⟨qH _,[],rfl, ?_,XN s,fun x a=>(by cases a)⟩;unfold lvl;rw[List.map_replicate];rfl
theorem RdL.next{s:Tw}{n i p:Nat}{M:List LvS}{v:Value}(h:RdL s n i p M)(hi:i<n)(j:num s p 1<=255):RdL s n (i+1) (p+1+4*num s p 1) (M.set i ⟨v,uM s (p+1) (num s p 1)⟩):=by
 obtain⟨k,L,b,c,d,f⟩:=h;refine⟨hi,L++[uM s (p+1) (num s p 1)],by rw[qI,b];rfl, ?_,XO d (qZ _) (qX rfl),fun x a=>?_⟩
 ·rw[KM,c,List.set_append_right _ _ (by omega),b,Nat.sub_self,show n-i=(n-(i+1))+1 by omega,List.replicate_succ,List.set_cons_zero,qd];rfl
 ·rcases qC.1 a with a|a
  ·exact f x a
  ·rw[qE.1 a,mF];exact j
theorem VH: ∀(L:LvL),(∀x∈L,x.length<=255)->L.flatten.length<=255*L.length
 | [],_=>qH _
 | x::L,h=>by
   have h1:=VH L (fun y a=>h y (qF _ a));have b:=h x qB;rw[List.flatten_cons,qI,qk];omega
theorem RdL.done{s:Tw}{p:Nat}{M:List LvS}(i:num s 20 1<=255)(h:RdL s (num s 20 1) (num s 20 1) p M):mH s ⟨(num s 4 4:Nat),(num s 8 4:Nat),num s 12 8,lvl M⟩/\(lvl M).length=num s 20 1/\(lvl M).flatten.length<=100000:=by
 obtain⟨f,L,a,b,c,d⟩:=h;rw[Nat.sub_self]at b;have e:lvl M=L:=by rw[b];simp
 rw[e];have:=VH L d;exact⟨XP c (qZ _) (qX rfl),a,by rw[a]at this;omega⟩
def gD(s:Tw)(p c k:Nat):List Int:=uM s p k++List.replicate (c-k) 0
theorem VI(s:Tw)(p:Nat){c k:Nat}(h:k<=c):(gD s p c k).length=c:=by unfold gD;rw[qI,mF,List.length_replicate];omega
theorem Oq(s:Tw)(p c:Nat):gD s p c 0=List.replicate c 0:=by unfold gD;rw[GP,List.nil_append,Nat.sub_zero]
theorem Ox(s:Tw)(p c:Nat):gD s p c c=uM s p c:=by unfold gD;rw[Nat.sub_self];simp
theorem Oz(s:Tw)(p:Nat){c k:Nat}(h:k<c):(gD s p c k).set k ((num s (p+4*k) 4:Nat):Int)=gD s p c (k+1):=by
 unfold gD;rw[List.set_append_right _ _ (by rw[mF];exact qZ _),mF,Nat.sub_self,show c-k=(c-(k+1))+1 by omega,List.replicate_succ,List.set_cons_zero,GO,qd];rfl
theorem QG(s:Tw)(p:Nat):num s p 4<4294967296:=rj s p 4 4 (by decide) (by decide)
theorem nE(s:Tw)(p:Nat):num s p 1<=255:=by have:=rj s p 1 1 (by decide) (by decide);omega
theorem Oj(s:Tw)(p:Nat):num s p 8<18446744073709551616:=rj s p 8 8 (by decide) (by decide)
theorem Ov(s:Tw)(w:World)(hs:s.size<=1100000):Calls prog 246 #[.string s] w (VF w s):=by
 have H0:=qQ (O5 s w hs);have am:=qQ (fun p x0 x1 x2 v wr (h:RdB w s p x0 x1 x2 v wr)=>h.zL hs);have a2:=qQ (fun p x0 x1 x2 v wr (h:RdB w s p x0 x1 x2 v wr)=>h.zx hs);have aK:=qQ (fun p x0 x1 x2 v wr (h:RdB w s p x0 x1 x2 v wr)=>h.z7 hs)
 have aW:Hid (∀A n c M p W B,w.heap.size<=B->n=num s 20 1->j4 W B (.slice A n c) M->bB W B M->Below w.heap.size w W->RdL s n n p M->VF w s (.returned (j9 (num s 4 4:Nat) (num s 8 4:Nat) (num s 12 8) (.slice A n c))) W):=qQ fun A n c M p W B F e h1 h2 h3 h4=>by
  subst e;obtain⟨r1,r2,r3⟩:=RdL.done (nE s 20) h4;exact⟨_,_,_,A,_,c,lvl M,rfl,r2.symm,⟨M,j4.down h1 F,h2.down F,rfl⟩,h3,r1,Oj s 12,r3,by rw[r2];have:=nE s 20;omega⟩
 have b0:=QG s 4;have b1:=QG s 8;have b3:=nE s 20;have q0:IntKind.i64.wrap ((num s 4 4:Nat):Int)=((num s 4 4:Nat):Int):=IntWalk.i64_in _ ⟨by omega,by omega⟩;have q1:IntKind.i64.wrap ((num s 8 4:Nat):Int)=((num s 8 4:Nat):Int):=IntWalk.i64_in _ ⟨by omega,by omega⟩;have ak:=qQ (RdL.start s (num s 20 1));obtain⟨Z,hZ,Y⟩:=O8 (num s 20 1) (by omega);have U:=qQ Y;obtain⟨r,aA⟩:∃y,num s 4 4=y:=⟨_,rfl⟩
 obtain⟨t,aB⟩:∃y,num s 8 4=y:=⟨_,rfl⟩
 obtain⟨z,aV⟩:∃y,num s 12 8=y:=⟨_,rfl⟩
 obtain⟨n,hn⟩:∃y,num s 20 1=y:=⟨_,rfl⟩
 have aN:=qQ aA;have aO:=qQ aB;have aP:=qQ aV;have HN:=qQ hn;rw[hn]at ak U b3;rw[hn]at hZ;rw[aA]at b0 q0;rw[aB]at b1 q1;clear hs Y aA aB aV hn;go_enter func246,ntmps246;go_wp2_with fail;refine H0.out.mono ?_;rintro e w3⟨rfl,a_,f⟩;have m:=am.out _ _ _ _ _ _ f;rw[aN.out]at m;have T:=qQ m;clear f m H0;go_wp2_with fail;refine T.out.mono ?_;rintro e w4⟨rfl,f,-⟩;obtain⟨k0,-,-,-,C,-⟩:=f.cells;have J:=C 0;have m:=am.out _ _ _ _ _ _ (f.zj (r:Nat));rw[aO.out]at m;have T:=qQ m;clear f m C;go_wp2_with fail;refine T.out.mono ?_;rintro e w5⟨rfl,f,-⟩;clear k0 J;obtain⟨-,k1,-,-,C,-⟩:=f.cells;have J:=C 1;have m:=a2.out _ _ _ _ _ _ (f.zE (t:Nat));rw[aP.out]at m;have T:=qQ m;clear f m C;go_wp2_with fail;refine T.out.mono ?_;rintro e w6⟨rfl,f,-⟩;clear k1 J;obtain⟨-,-,k2,-,C,-⟩:=f.cells;have J:=C 2;have m:=aK.out _ _ _ _ _ _ (f.zO z);rw[HN.out]at m;have T:=qQ m;clear f m C;go_wp2_with fail;refine T.out.mono ?_;rintro e P⟨rfl,f,-⟩;clear k2 J T;obtain⟨-,-,-,j3,jf,-⟩:=(f.alloc (.cells Z 37)).cells;have ba:=jf 3;obtain⟨-,-,-,O,C,aQ⟩:=f.cells;have J:=C 3;have an:=(RdR.start n (U.out P)).qe (b:=w.heap.size+2) (i:=3) aQ (.slice (some ⟨P.heap.size,0,none⟩) n n);have ae:=(f.alloc (.cells Z 37)).x7 (.slice (some ⟨P.heap.size,0,none⟩) n n);obtain⟨a,H⟩:∃a,a=P.heap.size:=⟨_,rfl⟩
 obtain⟨w8,ay⟩:∃w8,w8=(P.alloc (.cells Z 37)).setCell ⟨w.heap.size+2,3,none⟩ (.slice (some ⟨P.heap.size,0,none⟩) n n):=⟨_,rfl⟩
 have aL:=qQ ay;have aF:=qQ H;rw[<-ay,<-H]at an ae;rw[<-H]at aQ;have aH:=qQ an;have af:=qQ ae;clear jf f C an ae ay H U a_;go_upto_region 8 with fail;rw[<-aL.out,<-aF.out];clear aL aF O J j3 ba;obtain⟨-,-,-,O,-,-⟩:=af.out.cells;have aI:=qQ (fun(W:World) (o:Obj) (h:w.heap.size+2<W.heap.size/\W.cell? ⟨w.heap.size+2,3,none⟩=some (.slice (some ⟨a,0,none⟩) n n))=>(show w.heap.size+2<(W.alloc o).heap.size/\(W.alloc o).cell? ⟨w.heap.size+2,3,none⟩=some (.slice (some ⟨a,0,none⟩) n n) from⟨by rw[World.size_alloc];omega,(O9 h.1).trans h.2⟩));have aJ:=qQ (fun(W:World) (g i:Nat) (u:Value) (H:w.heap.size+2≠g) (h:w.heap.size+2<W.heap.size/\W.cell? ⟨w.heap.size+2,3,none⟩=some (.slice (some ⟨a,0,none⟩) n n))=>(show w.heap.size+2<(W.setCell ⟨g,i,none⟩ u).heap.size/\(W.setCell ⟨g,i,none⟩ u).cell? ⟨w.heap.size+2,3,none⟩=some (.slice (some ⟨a,0,none⟩) n n) from⟨by rw[World.size_setCell];exact h.1,(QU H).trans h.2⟩));go_wp2;go_loopg [24] n (fun g i wr=>∃(j p:Nat) (M:List LvS),j+g=n/\i = .int .i64 j/\RdB w s p (r:Nat) (t:Nat) z (.slice (some ⟨a,0,none⟩) n n) wr/\RdR a a n M wr/\RdL s n j p M)
 case atStart=>exact⟨0,21,_,by omega,rfl,af.out,aH.out,ak.out⟩
 case round =>
  obtain⟨j,p,M,bm,rfl,F,X,hL⟩:=hrel;clear af aH ak O;have q:=qQ F;have HR:=qQ X;have HL:=qQ hL;clear F X hL;obtain⟨wo,rfl⟩:∃wo,wo=wr:=⟨_,rfl⟩
  cases gk with
  | zero =>
    obtain rfl:j=n:=(by omega);have l1:¬(j:Int)<(j:Int):=(by omega);obtain⟨k0,k1,k2,O,-,-⟩:=q.out.cells;have d0:=q.out.b2.cell 0;have d1:=q.out.b2.cell 1;have d2:=q.out.b2.cell 2;have d3:=q.out.b2.cell 3;have f0:=q.out.b2.frozen 0;have f1:=q.out.b2.frozen 1;have f2:=q.out.b2.frozen 2;have f3:=q.out.b2.frozen 3;simp only[List.getElem?_toArray]at d0 d1 d2 d3;obtain⟨S,az⟩:∃S,S=((((wo.setCell ⟨w.heap.size,0,none⟩ (.int .i64 (r:Nat))).setCell ⟨w.heap.size,1,none⟩ (.int .i64 (t:Nat))).setCell ⟨w.heap.size,2,none⟩ (.int .u64 (z:Nat))).setCell ⟨w.heap.size,3,none⟩ (.slice (some ⟨a,0,none⟩) j j)):=⟨_,rfl⟩
    have N:=(((q.out.b2.put 0 (.int .i64 (r:Nat))).put 1 (.int .i64 (t:Nat))).put 2 (.int .u64 (z:Nat))).put 3 (.slice (some ⟨a,0,none⟩) j j);have ap:=(((q.out.xA.setCell (p:=⟨w.heap.size,0,none⟩) (qZ _) (.int .i64 (r:Nat))).setCell (p:=⟨w.heap.size,1,none⟩) (qZ _) (.int .i64 (t:Nat))).setCell (p:=⟨w.heap.size,2,none⟩) (qZ _) (.int .u64 (z:Nat))).setCell (p:=⟨w.heap.size,3,none⟩) (qZ _) (.slice (some ⟨a,0,none⟩) j j);have ac:=(((HR.out.qe (b:=w.heap.size) (i:=0) (by omega) (.int .i64 (r:Nat))).qe (b:=w.heap.size) (i:=1) (by omega) (.int .i64 (t:Nat))).qe (b:=w.heap.size) (i:=2) (by omega) (.int .u64 (z:Nat))).qe (b:=w.heap.size) (i:=3) (by omega) (.slice (some ⟨a,0,none⟩) j j);rw[<-az]at N ap ac;have e0:S.cell? ⟨w.heap.size,0,none⟩=some (.int .i64 (r:Nat)):=N.cell 0;have e1:S.cell? ⟨w.heap.size,1,none⟩=some (.int .i64 (t:Nat)):=N.cell 1;have e2:S.cell? ⟨w.heap.size,2,none⟩=some (.int .u64 (z:Nat)):=N.cell 2;have e3:S.cell? ⟨w.heap.size,3,none⟩=some (.slice (some ⟨a,0,none⟩) j j):=N.cell 3;have al:=aW.out _ _ _ _ _ _ _ (by omega) HN.out.symm ac.row ac.own ap HL.out;rw[aN.out,aO.out,aP.out]at al;have aZ:=qQ al;have a3:=qQ az;clear al az N ap ac;go_wp2;rw[<-a3.out];exact bodyPost_ret (v:=j9 (r:Nat) (t:Nat) z (.slice (some ⟨a,0,none⟩) j j)) (by simp[results,Tryz.results246,go_sem,e0,e1,e2,e3];rfl) rfl aZ.out
  | succ a5 =>
    have aR:j<n:=(by omega);have l1:(j:Int)<(n:Int):=(by omega);obtain⟨c,hc⟩:∃c,num s p 1=c:=⟨_,rfl⟩
    have bi:c<=255:=(by have:=nE s p;omega);have HC:=qQ hc;obtain⟨y,hy⟩:∃y,M[j]? = some y:=⟨_,qD (by rw[HR.out.len];exact aR)⟩
    obtain⟨Zc,bb,Y⟩:=O7 c (by omega);have U:=qQ Y;have HY:=qQ hy;obtain⟨-,-,-,O,-,kl⟩:=q.out.cells;have bv:w.heap.size+2<wo.drew.heap.size/\wo.drew.cell? ⟨w.heap.size+2,3,none⟩=some (.slice (some ⟨a,0,none⟩) n n):=⟨kl,O⟩
    have m:=aK.out _ _ _ _ _ _ q.out.drew;rw[hc]at m;have K:=qQ (m.mono fun e w' I=>(⟨I.1,⟨I.2.1.cells.2.2.2.2.2,I.2.1.cells.2.2.2.1⟩,I.2.1,by rw[I.2.2];exact HR.out.drew.qe (b:=w.heap.size+1) (i:=0) (by omega) _⟩:e=_/\(w.heap.size+2<w'.heap.size/\w'.cell? ⟨w.heap.size+2,3,none⟩=some (.slice (some ⟨a,0,none⟩) n n))/\RdB w s (p+1) (r:Nat) (t:Nat) z (.slice (some ⟨a,0,none⟩) n n) w'/\RdR a a n M w'));have aT:w.heap.size+2≠a:=(by omega);clear m hc hy Y;go_upto_region 11 with fail
    go_region_held3 (fun W=>w.heap.size+2<W.heap.size/\W.cell? ⟨w.heap.size+2,3,none⟩=some (.slice (some ⟨a,0,none⟩) n n))
     (first | (with_reducible assumption) | (with_reducible exact aI.out _ _ (by with_reducible assumption)) | (with_reducible exact aJ.out _ _ _ _ aT (by with_reducible assumption)) | (with_reducible exact aJ.out _ _ _ _ aT (aI.out _ _ (by with_reducible assumption))) | fail)
     (first
     | (go_at_call 284;((with_reducible refine K.out.mono ?_);rintro e Q⟨rfl,au,V,G⟩;obtain⟨fa,fb⟩:=(G.alloc (.cells Zc 3)).at_ HY.out;obtain⟨fc,fd⟩:=G.at_ HY.out))
     | fail)
    have ao:=(V.alloc (.cells Zc 3)).set (i:=j) (show w.heap.size+3<=a by omega) (.slice (some ⟨Q.heap.size,0,none⟩) c c);have ar:=G.lay (i:=j) (c:=c) (Z:=Zc) (by have:=(World.ownsRow.lt G.row a rfl).2;omega) (U.out Q);obtain⟨d,av⟩:∃d,d=Q.heap.size:=⟨_,rfl⟩
    obtain⟨wd,ad⟩:∃wd,wd=((Q.alloc (.cells Zc 3)).setCell ⟨a,j,none⟩ (.slice (some ⟨Q.heap.size,0,none⟩) c c)):=⟨_,rfl⟩
    rw[<-ad,<-av,<-Oq s (p+1) c]at ar;rw[<-ad]at ao;have ag:=qQ ao;have aa:=qQ ar;have aM:=qQ ad;have aG:=qQ av;clear ao ar ad av K;rw[<-aM.out,<-aG.out];clear aM aG au V G fa fb fc fd;have L:=qQ (fun(l:List Int)=>(show(M.set j ⟨.slice (some ⟨d,0,none⟩) c c,l⟩)[j]? = some ⟨.slice (some ⟨d,0,none⟩) c c,l⟩ from by rw[List.getElem?_set,qK rfl,qK (qM.1 HY.out).1]));have aY:=qQ (fun(l l':List Int)=>(show(M.set j ⟨.slice (some ⟨d,0,none⟩) c c,l⟩).set j ⟨.slice (some ⟨d,0,none⟩) c c,l'⟩=M.set j ⟨.slice (some ⟨d,0,none⟩) c c,l'⟩ from List.set_set ..));have a7:=aa.out.ne (L.out _);obtain⟨-,-,-,aC,-,aD⟩:=ag.out.cells;obtain⟨kj,-⟩:=aa.out.at_ (L.out _);simp only at kj;have a0:=qQ (fun(W:World) (i:Nat) (u:Value) (H:w.heap.size+2≠d) (h:w.heap.size+2<W.heap.size/\W.cell? ⟨w.heap.size+2,3,none⟩=some (.slice (some ⟨a,0,none⟩) n n)/\W.cell? ⟨a,j,none⟩=some (.slice (some ⟨d,0,none⟩) c c))=>(show w.heap.size+2<(W.setCell ⟨d,i,none⟩ u).heap.size/\(W.setCell ⟨d,i,none⟩ u).cell? ⟨w.heap.size+2,3,none⟩=some (.slice (some ⟨a,0,none⟩) n n)/\(W.setCell ⟨d,i,none⟩ u).cell? ⟨a,j,none⟩=some (.slice (some ⟨d,0,none⟩) c c) from⟨by rw[World.size_setCell];exact h.1,(QU H).trans h.2.1,(QU a7).trans h.2.2⟩))
    have aX:=qQ (fun(k:Nat) (W:World) (f:RdB w s (p+1+4*k) (r:Nat) (t:Nat) z (.slice (some ⟨a,0,none⟩) n n) W) (I:RdR a a n (M.set j ⟨.slice (some ⟨d,0,none⟩) c c,gD s (p+1) c k⟩) W)=>(am.out _ _ _ _ _ _ f.drew).mono fun e w' h=>(show e = .returned (.int .u64 (num s (p+1+4*k) 4:Nat))/\(w.heap.size+2<w'.heap.size/\w'.cell? ⟨w.heap.size+2,3,none⟩=some (.slice (some ⟨a,0,none⟩) n n)/\w'.cell? ⟨a,j,none⟩=some (.slice (some ⟨d,0,none⟩) c c))/\RdB w s (p+1+4*k+4) (r:Nat) (t:Nat) z (.slice (some ⟨a,0,none⟩) n n) w'/\RdR a a n (M.set j ⟨.slice (some ⟨d,0,none⟩) c c,gD s (p+1) c k⟩) w' from by
     have aU:RdR a a n (M.set j ⟨.slice (some ⟨d,0,none⟩) c c,gD s (p+1) c k⟩) w':=(by rw[h.2.2];exact I.drew.qe (b:=w.heap.size+1) (i:=0) (by omega) _);exact⟨h.1,⟨h.2.1.cells.2.2.2.2.2,h.2.1.cells.2.2.2.1,(aU.at_ (L.out _)).1⟩,h.2.1,aU⟩))
    go_wp2;go_loopg [39] c (fun g i wx=>∃(k:Nat),k+g=c/\i = .int .i64 k/\RdB w s (p+1+4*k) (r:Nat) (t:Nat) z (.slice (some ⟨a,0,none⟩) n n) wx/\RdR a a n (M.set j ⟨.slice (some ⟨d,0,none⟩) c c,gD s (p+1) c k⟩) wx)
    case atStart=>exact⟨0,by omega,rfl,ag.out,aa.out⟩
    case round =>
     obtain⟨k,bp,rfl,F,X⟩:=hrel;clear ag aa aC aD kj;have ah:=qQ F;have ab:=qQ X;clear F X;cases gk with
     | zero =>
       obtain rfl:k=c:=(by omega);have l2:¬(k:Int)<(k:Int):=(by omega);have aE:=ah.out;have aj:=ab.out;have ai:=HL.out.next (v:=.slice (some ⟨d,0,none⟩) k k) aR (nE s p);rw[HC.out]at ai;rw[Ox]at aj;have H1:=qQ aE;have H2:=qQ aj;have H3:=qQ ai;clear aE aj ai;go_wp2;go_roundg a5
       case measure=>omega
       case rel=>exact⟨j+1,_,_,by omega,by go_num,H1.out,H2.out,H3.out⟩
     | succ gj =>
       have aS:k<c:=(by omega);have l2:(k:Int)<(c:Int):=(by omega);obtain⟨-,-,-,aC,-,aD⟩:=ah.out.cells;obtain⟨kj,-⟩:=ab.out.at_ (L.out _);simp only at kj;have a8:w.heap.size+2<wr.drew.heap.size/\wr.drew.cell? ⟨w.heap.size+2,3,none⟩=some (.slice (some ⟨a,0,none⟩) n n)/\wr.drew.cell? ⟨a,j,none⟩=some (.slice (some ⟨d,0,none⟩) c c):=⟨aD,aC,kj⟩
       have K4:=aX.out k wr ah.out ab.out;obtain⟨x,hx⟩:∃x,num s (p+1+4*k) 4=x:=⟨_,rfl⟩
       have a9:=QG s (p+1+4*k);have ax:=Oz s (p+1) aS;rw[hx]at K4 a9 ax;have a1:=qQ ax;have K:=qQ K4;have qx:IntKind.i64.wrap ((x:Nat):Int)=((x:Nat):Int):=IntWalk.i64_in _ ⟨by omega,by omega⟩;have a6:w.heap.size+2≠d:=(by have:=(ab.out.put (j:=k) (L.out _) (VI s (p+1) (by omega)).symm 0).2.1;omega);clear K4 hx ax;go_upto_region 15 with fail
       go_region_held3 (fun W=>w.heap.size+2<W.heap.size/\W.cell? ⟨w.heap.size+2,3,none⟩=some (.slice (some ⟨a,0,none⟩) n n)/\W.cell? ⟨a,j,none⟩=some (.slice (some ⟨d,0,none⟩) c c))
        (first | (with_reducible assumption) | (with_reducible exact a0.out _ _ _ a6 (by with_reducible assumption)) | fail)
        (first
        | (go_at_call 284;((with_reducible refine K.out.mono ?_);rintro e Q⟨rfl,au,V,G⟩;obtain⟨aw,bk,ff,a4⟩:=G.put (j:=k) (L.out _) (VI s (p+1) (by omega)).symm ((x:Nat):Int);obtain⟨xu,fc⟩:=a4 aS))
        | fail)
       rw[aY.out,a1.out]at aw;have aq:=V.set (i:=k) (show w.heap.size+3<=d by omega) (.int .i64 ((x:Nat):Int));rw[show p+1+4*k+4=p+1+4*(k+1) by omega]at aq;have H1:=qQ aq;have H2:=qQ aw;clear aq aw au V G K ff fc a8;go_wp2;go_roundg gj
       case measure=>omega
       case rel=>exact⟨k+1,by omega,by go_num,H1.out,H2.out⟩
end
section
open Go.RowKit
def uj(D:zr)(s:Tw):Nat × zr:=if (ud D zw s).1≠0 then ud D zw s else vY (ud D zw s).2 zw jG
theorem Oy{D:zr}{s:Tw}(h:(jB D zw).1≠0):uj D s=jB D zw:=by
 have e:ud D zw s=jB D zw:=by unfold ud;rw[qK h]
 unfold uj;rw[e,qK h]
theorem Ou{D:zr}{s:Tw}(h:(jB D zw).1=0)(a:(jF (jB D zw).2 zw s).1≠0):uj D s=jF (jB D zw).2 zw s:=by
 have e:ud D zw s=jF (jB D zw).2 zw s:=by unfold ud;rw[qJ (by simp[h]),qK a]
 unfold uj;rw[e,qK a]
theorem Og{D:zr}{s:Tw}(h:(jB D zw).1=0)(a:(jF (jB D zw).2 zw s).1=0)(b:(j6 (jF (jB D zw).2 zw s).2 zw).1≠0):uj D s=j6 (jF (jB D zw).2 zw s).2 zw:=by
 have e:ud D zw s=j6 (jF (jB D zw).2 zw s).2 zw:=by unfold ud;rw[qJ (by simp[h]),qJ (by simp[a])]
 unfold uj;rw[e,qK b]
theorem Ob{D:zr}{s:Tw}(h:(jB D zw).1=0)(a:(jF (jB D zw).2 zw s).1=0)(b:(j6 (jF (jB D zw).2 zw s).2 zw).1=0):uj D s=vY (j6 (jF (jB D zw).2 zw s).2 zw).2 zw jG:=by
 have e:ud D zw s=j6 (jF (jB D zw).2 zw s).2 zw:=by unfold ud;rw[qJ (by simp[h]),qJ (by simp[a])]
 unfold uj;rw[e,qJ (by simp[b])]
section
variable {At:jK}(api:jY At){w0 w:World}{gd:Nat}{D:zr}{E:List Nat}
include api
theorem VL(h:DS At w0 gd D E w)(ok:WfP D):Calls prog 134 #[ptr gd] w fun e w'=>e = .returned (err (if D.down=true then 61 else 0))/\w=w':=by
 have c:=h.size api ok ⟨#[109,97,112]⟩ (by decide);rcases oq D ⟨#[109,97,112]⟩ with⟨f,i⟩|⟨f,i⟩
 ·rw[qK f];rw[i]at c;have d:=qQ c;clear c;go_enter func134,ntmps134;go_wp2_with fail;refine d.out.mono ?_;rintro e w'⟨rfl,rfl⟩;go_wp2;go_ret;exact⟨rfl,rfl⟩
 ·rw[qJ (by rw[f];decide)];have j:(((jQ D ⟨#[109,97,112]⟩).2:Int)==1)=false:=by simp;omega
  have k:(((jQ D ⟨#[109,97,112]⟩).2:Int)==61)=false:=by simp;omega
  have d:=qQ c;generalize (jQ D ⟨#[109,97,112]⟩).1=a at*;generalize (jQ D ⟨#[109,97,112]⟩).2=b at*;clear c i;go_enter func134,ntmps134;go_wp2_with fail;refine d.out.mono ?_;rintro e w'⟨rfl,rfl⟩;go_wp2;go_ret;exact⟨rfl,rfl⟩
theorem Oc(h:DS At w0 gd D E w)(ok:WfP D)(s:Tw)(H:s.size<=1099511627776):Calls prog 236 #[ptr gd,.string s] w (yJ At w0 gd (err (uj D s).1) (uj D s).2 E w):=by
 have f:Calls prog 201 #[ptr gd,.string ⟨#[110,101,119]⟩] w (yJ At w0 gd (err (jB D zw).1) (jB D zw).2 E w):=h.qi api (fun F hF=>api.create zw hF ok.ok (by decide));have r:=mg ok zw;have u:=mc r zw s;have J:=mf u zw;have k:∀W,DS At w0 gd (jB D zw).2 E W->Calls prog 203 #[ptr gd,.string ⟨#[110,101,119]⟩,.string s] W (yJ At w0 gd (err (jF (jB D zw).2 zw s).1) (jF (jB D zw).2 zw s).2 E W):=fun W G=>G.qi api (fun F hF=>api.append zw s hF r.ok H (by decide))
 have q:∀W,DS At w0 gd (jF (jB D zw).2 zw s).2 E W->Calls prog 160 #[ptr gd,.string ⟨#[110,101,119]⟩] W (yJ At w0 gd (err (j6 (jF (jB D zw).2 zw s).2 zw).1) (j6 (jF (jB D zw).2 zw s).2 zw).2 E W):=fun W G=>G.qi api (fun F hF=>api.sync zw hF u.ok (by decide))
 have I:∀W,DS At w0 gd (j6 (jF (jB D zw).2 zw s).2 zw).2 E W->Calls prog 245 #[ptr gd,.string ⟨#[110,101,119]⟩,.string ⟨#[109,97,112]⟩] W (yJ At w0 gd (err (vY (j6 (jF (jB D zw).2 zw s).2 zw).2 zw jG).1) (vY (j6 (jF (jB D zw).2 zw s).2 zw).2 zw jG).2 E W):=fun W G=>G.qi api (fun F hF=>api.rename zw jG hF J.ok (by decide) (by decide))
 by_cases d:(jB D zw).1=0
 case neg =>
  rw[Oy d];have t:(((jB D zw).1:Int) != 0)=true:=by simp;omega
  generalize jB D zw=X at*;generalize X.1=y at*;have m:=qQ f;clear f k q I h ok r u J d H;go_enter func236,ntmps236;go_wp2_with fail;refine m.out.mono ?_;rintro e N⟨rfl,b,c⟩;have a:=qQ (qU b c);clear b c;go_wp2;go_ret;exact⟨rfl,a.out.1,a.out.2⟩
 rw[d]at f;by_cases o:(jF (jB D zw).2 zw s).1=0
 case neg =>
  rw[Ou d o];have t:(((jF (jB D zw).2 zw s).1:Int) != 0)=true:=by simp;omega
  generalize jF (jB D zw).2 zw s=Y at*;generalize (jB D zw).2=O at*;generalize Y.1=y at*;have m:=qQ f;have A:=qQ k;clear f k q I h ok r u J d o H;go_enter func236,ntmps236;go_wp2_with fail;refine m.out.mono ?_;rintro e N⟨rfl,b,c⟩;have a:=qQ (qU b c);clear b c;go_wp2_with fail;refine(A.out _ a.out.1).mono ?_;rintro e T⟨rfl,j,l⟩;have i:=qQ (qU j l);clear j l;go_wp2;go_ret;exact⟨rfl,i.out.1,a.out.2.trans i.out.2⟩
 rw[o]at k;by_cases C:(j6 (jF (jB D zw).2 zw s).2 zw).1=0
 case neg =>
  rw[Og d o C];have t:(((j6 (jF (jB D zw).2 zw s).2 zw).1:Int) != 0)=true:=by simp;omega
  generalize j6 (jF (jB D zw).2 zw s).2 zw=Z at*;generalize (jF (jB D zw).2 zw s).2=U at*;generalize (jB D zw).2=O at*;generalize Z.1=y at*;have m:=qQ f;have A:=qQ k;have L:=qQ q;clear f k q I h ok r u J d o C H;go_enter func236,ntmps236;go_wp2_with fail;refine m.out.mono ?_;rintro e N⟨rfl,b,c⟩;have a:=qQ (qU b c);clear b c;go_wp2_with fail;refine(A.out _ a.out.1).mono ?_;rintro e T⟨rfl,j,l⟩;have i:=qQ (qU j l);clear j l;go_wp2_with fail;refine(L.out _ i.out.1).mono ?_;rintro e w3⟨rfl,B,K⟩;have z:=qQ (qU B K);clear B K;go_wp2;go_ret;exact⟨rfl,z.out.1,(a.out.2.trans i.out.2).trans z.out.2⟩
 rw[Ob d o C];rw[C]at q;generalize vY (j6 (jF (jB D zw).2 zw s).2 zw).2 zw jG=X4 at*;generalize (j6 (jF (jB D zw).2 zw s).2 zw).2=D3 at*;generalize (jF (jB D zw).2 zw s).2=U at*;generalize (jB D zw).2=O at*;have m:=qQ f;have A:=qQ k;have L:=qQ q;have V:=qQ I;clear f k q I h ok r u J d o C H;go_enter func236,ntmps236;go_wp2_with fail;refine m.out.mono ?_;rintro e N⟨rfl,b,c⟩;have a:=qQ (qU b c);clear b c;go_wp2_with fail;refine(A.out _ a.out.1).mono ?_;rintro e T⟨rfl,j,l⟩;have i:=qQ (qU j l);clear j l;go_wp2_with fail;refine(L.out _ i.out.1).mono ?_;rintro e w3⟨rfl,B,K⟩;have z:=qQ (qU B K);clear B K;go_wp2_with fail;refine(V.out _ z.out.1).mono ?_;rintro e w4⟨rfl,Q,S⟩;have P:=qQ (qU Q S);clear Q S;go_wp2;go_ret;exact⟨rfl,P.out.1,((a.out.2.trans i.out.2).trans z.out.2).trans P.out.2⟩
end
theorem Od{x:Tw}(h:kR x=true):npK x=99∨npK x=116∨npK x=98:=by
 obtain⟨c,l,-,-,a,-,e,-⟩:=rM h;rw[e];unfold isK at a;simp only[Bool.or_eq_true,beq_iff_eq]at a;rcases a with(rfl|rfl)|rfl
 ·exact qX rfl
 ·exact qY (qX rfl)
 ·exact qY (qY rfl)
theorem Of(u:jz)(x:Tw)(v:Value)(b:List Int)(w:World)(l:x.size<=maxLen)(i:ju w v b)(k:b.length<=1000000):
  Calls prog 194 #[.string x,v] w fun e w'=>e = .returned (.bool (kR x&&!decide (npK x=99)&&!decide ((npN x:Int)∈b)))/\Below w.heap.size w w':=by
 have d:=qQ (u.parse x w l);have c:=qQ (fun W (t:Below w.heap.size w W)=>OW v b (npN x:Nat) W (i.below t (qZ _)) k);have f:=@Od x;obtain⟨A,off,y,rfl,-,-⟩:=i.cell;generalize decide ((npN x:Int)∈b)=q at*;generalize kR x=ok at*;generalize npK x=z at*;generalize npN x=B at*;clear i k l;generalize b.length=m at*;cases ok with
 | false =>
   rw[Bool.false_and,Bool.false_and];clear f c;go_enter func194,ntmps194;go_wp2_with fail;refine d.out.mono ?_;rintro e j⟨rfl,a⟩;go_wp2;go_ret;exact⟨rfl,a⟩
 | true =>
   rcases f rfl with rfl|rfl|rfl
   ·rw[qW rfl];clear f c;go_enter func194,ntmps194;go_wp2_with fail;refine d.out.mono ?_;rintro e j⟨rfl,a⟩;go_wp2;go_ret;exact⟨rfl,a⟩
   all_goals
    rw[qG (by decide)];clear f;go_enter func194,ntmps194;go_wp2_with fail;refine d.out.mono ?_;rintro e j⟨rfl,a⟩;have r:=qQ (c.out j a);have o:=qQ a;clear a c d;go_wp2_with fail;refine r.out.mono ?_;rintro e C⟨rfl,rfl⟩;go_wp2;go_ret;exact⟨by cases q<;>rfl,o.out⟩
end
section
open Go.ChangeShapes Go.WideShapes Go.ChangeAt Go.RowKit Go.Deep
abbrev lT(x:Tw):Value:=.string x
theorem Oh{l:List Tw}:∀u∈l.map lT,u.oneCell'=true:=by
 intro u a;obtain⟨x,-,rfl⟩:=qN.1 a;rfl
abbrev yj(w:World)(base:Nat)(v:Value)(l:List Tw):Prop:=w.ownsRow base 9 1 v l.length (l.map lT)
theorem yj.nil(w:World)(base:Nat):yj w base (.slice none 0 0) []:=World.ownsRow_nil _ _ _ _
theorem yj.qw{w:World}{base:Nat}{v:Value}{l:List Tw}(h:yj w base v l):yQ w v l:=by
 have b:=h;rcases h.2 with⟨a,f⟩|⟨g,d,o,a,q,j,m,k,t,u⟩
 ·exact qX ⟨List.length_eq_zero_iff.1 f,none,0,a⟩
 ·refine qY ⟨g,0,d,a,m,k,(qb.1 j).1,fun i x c=>?_⟩;have r:i<l.length:=(qM.1 c).1;rw[a]at b;rw[Nat.zero_add];refine(b.cellAt i (by omega)).trans ?_;show(l.map lT)[i]? = _;rw[qz,c];rfl
theorem yj.below{w w':World}{base B:Nat}{v:Value}{l:List Tw}(h:yj w base v l)(i:Below B w w')(f:w.heap.size<=B):yj w' base v l:=by
 refine⟨h.1, ?_⟩;rcases h.2 with d|⟨g,b,c,m,j,a,r⟩
 ·exact qX d
 ·obtain⟨k,_⟩:=qb.1 a;exact qY ⟨g,b,c,m,j,(i.block g (qP k f)).trans a,r⟩
theorem yj.block{w:World}{base:Nat}{v:Value}{l:List Tw}(h:yj w base v l):∀k,v.ownBlock=some k->base<=k/\k<w.heap.size:=fun k a=>h.lt k a
theorem Ol: (prog.info? 9).map (fun i=>(i.zero,i.size,i.bytes))=some (some (.string ⟨#[]⟩),1,16):=by kernel_rfl
theorem yQ.src{w:World}{v:Value}{l:List Tw}(h:yQ w v l):cW w 1 v l.length (l.map lT):=by
 refine⟨by rw[qj,Nat.mul_one], ?_⟩;rcases h with⟨rfl,a,c,rfl⟩|⟨b,off,f,rfl,o,q,r,k⟩
 ·cases a with
  | none=>exact qX ⟨c,rfl,rfl⟩
  | some a=>exact qY ⟨a,c,rfl,fun j u d=>by cases d⟩
 ·refine qY ⟨⟨b,off,none⟩,f,rfl,fun j u d=>?_⟩;rw[qz]at d;obtain⟨x,m,rfl⟩:=Option.map_eq_some_iff.1 d;have i:(⟨b,off,none⟩:Addr).add j=⟨b,off+j,none⟩:=by unfold Addr.add;split<;>simp_all
  rw[i];exact k j x m
theorem Om(w:World)(x:Tw):yQ (w.alloc (.cells #[Value.string x] 9)) (.slice (some ⟨w.heap.size,0,none⟩) 1 1) [x]:=by
 refine qY ⟨w.heap.size,0,1,rfl,qZ _,by unfold maxLen;omega,by simp,fun i y a=>?_⟩
 match i,a with
 | 0,a =>
   obtain rfl:x=y:=(by simpa using a);simp
theorem On{w:World}{base:Nat}{a b:Value}{l m:List Tw}(r:yj w base a l)(t:yQ w b m)(C:l.length+m.length<=1000000)(o:base<=w.heap.size)(f:TypeId):
  ∃A c w',(Builtin.append_ #[55,55] f #[a,b]).run prog w = .ok (.slice A (l.length+m.length) c) w'/\yj w' base (.slice A (l.length+m.length) c) (l++m)/\w.grownBy w' a.ownBlock/\((Value.slice A (l.length+m.length) c).ownBlock=a.ownBlock∨(Value.slice A (l.length+m.length) c).ownBlock=some w.heap.size):=by
 obtain⟨B,q,u,y,z⟩:=info_parts Ol;obtain⟨F,w',i,d,j,k⟩:=cr (P:=prog) w base 55 9 B _ 1 16 f Tryz.underlying55 q u y z rfl (by decide) a l.length (l.map lT) r b m.length (m.map lT) t.src Oh (by unfold maxLen;omega) (by omega) o;obtain⟨A,c,rfl,-,-,-⟩:=v8 d;refine⟨A,c,w',i, ?_,j,k⟩;unfold yj;rw[List.map_append,qI];exact d
theorem Ot{B:Nat}{w w':World}{v:Value}(h:w.grownBy w' v.ownBlock)(b:B<=w.heap.size)(a:∀k,v.ownBlock=some k->B<=k):Below B w w':=⟨h.os,h.tape,h.output,h.size,fun k c=>h.block k (by omega) (fun e=>by have:=a k e.symm;omega)⟩
theorem VM{w:World}{base n c:Nat}{A:Option Addr}{l:List Tw}{x:Tw}(z:yj w base (.slice A n c) l)(y:n=l.length)(t:n+1<=1000000)(q:base<=w.heap.size)(f:TypeId):
  ∃w' u,(Builtin.append_ #[55,55] f #[.slice A n c,.slice (some ⟨w.heap.size,0,none⟩) 1 1]).run prog (w.alloc (.cells #[.string x] 9)) = .ok u w' /\
   (∃a b,u = .slice a (n+1) b/\yj w' base (.slice a (n+1) b) (l++[x]))/\Below base w w':=by
 subst y;have o:=(Below.refl w.heap.size w).alloc (qZ _) (.cells #[.string x] 9);have d:=yj.below z o (qZ _);obtain⟨a,b,w',i,j,m,-⟩:=On d (Om w x) (by simpa using t) (by simp;omega) f;exact⟨w',_,i,⟨a,b,rfl,j⟩,((Below.refl base w).alloc q _).trans (Ot m (by simp;omega) (fun k r=>(yj.block d k r).1))⟩
end
end Go.Proofs.YthejglbnkmimjaaGreat

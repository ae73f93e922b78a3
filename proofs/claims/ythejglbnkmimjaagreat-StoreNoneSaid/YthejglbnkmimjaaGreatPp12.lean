import Derived.Test.YthejglbnkmimjaaGreatPp04
import Derived.Test.YthejglbnkmimjaaGreatPp10
set_option linter.unusedVariables false
set_option maxRecDepth 100000
set_option maxHeartbeats 9000000
namespace Go.Proofs.YthejglbnkmimjaaGreat
open Tryz
section
open Go.ChangeShapes Go.WideShapes Go.ChangeAt Go.RowKit Go.Deep
def cq(x:Int):Value:=.int .i64 x
theorem ju.form{w:World}{v:Value}{l:List Int}(h:ju w v l):∃A off d,v = .slice A l.length d/\l.length<=maxLen /\
  ∀i x,l[i]? = some x->∃b,A=some ⟨b,off,none⟩/\b<w.heap.size/\w.cell? ⟨b,off+i,none⟩=some (.int .i64 x):=by
 rcases h with⟨rfl,a,c,rfl⟩|⟨b,off,d,rfl,k,m,f,g⟩
 ·exact⟨a,0,c,rfl,qH _,fun i x h=>by simp at h⟩
 ·exact⟨some ⟨b,off,none⟩,off,d,rfl,by omega,fun i x j=>⟨b,rfl,f,g i x j⟩⟩
theorem MC{l:List Int}:∀u∈l.map cq,u.oneCell'=true:=by
 intro u a;obtain⟨x,-,rfl⟩:=qN.1 a;rfl
abbrev jP(w:World)(base:Nat)(v:Value)(l:List Int):Prop:=w.ownsRow base 3 1 v l.length (l.map cq)
theorem jP.nil(w:World)(base:Nat):jP w base (.slice none 0 0) []:=World.ownsRow_nil _ _ _ _
theorem jP.qw{w:World}{base:Nat}{v:Value}{l:List Int}(h:jP w base v l):ju w v l:=by
 have b:=h;rcases h.2 with⟨a,f⟩|⟨g,d,n,a,o,j,m,k,q,r⟩
 ·exact qX ⟨List.length_eq_zero_iff.1 f,none,0,a⟩
 ·refine qY ⟨g,0,d,a,m,k,(qb.1 j).1,fun i x c=>?_⟩;have p:i<l.length:=(qM.1 c).1;rw[a]at b;rw[Nat.zero_add];refine(b.cellAt i (by omega)).trans ?_;show(l.map cq)[i]? = _;rw[qz,c];rfl
theorem jP.below{w w':World}{base B:Nat}{v:Value}{l:List Int}(h:jP w base v l)(i:Below B w w')(f:w.heap.size<=B):jP w' base v l:=by
 refine⟨h.1, ?_⟩;rcases h.2 with d|⟨g,b,c,m,j,a,r⟩
 ·exact qX d
 ·obtain⟨k,_⟩:=qb.1 a;exact qY ⟨g,b,c,m,j,(i.block g (qP k f)).trans a,r⟩
theorem jP.block{w:World}{base:Nat}{v:Value}{l:List Int}(h:jP w base v l):∀k,v.ownBlock=some k->base<=k/\k<w.heap.size:=fun k a=>h.lt k a
theorem jP.down{w:World}{base base':Nat}{v:Value}{l:List Int}(h:jP w base v l)(d:base'<=base):jP w base' v l:=by
 refine⟨h.1, ?_⟩;rcases h.2 with c|⟨g,a,b,i,f,r⟩
 ·exact qX c
 ·exact qY ⟨g,a,b,i,qR d f,r⟩
theorem ju.src{w:World}{v:Value}{l:List Int}(h:ju w v l):cW w 1 v l.length (l.map cq):=by
 refine⟨by rw[qj,Nat.mul_one], ?_⟩;rcases h with⟨rfl,a,c,rfl⟩|⟨b,off,f,rfl,m,n,o,i⟩
 ·cases a with
  | none=>exact qX ⟨c,rfl,rfl⟩
  | some a=>exact qY ⟨a,c,rfl,fun j u d=>by cases d⟩
 ·refine qY ⟨⟨b,off,none⟩,f,rfl,fun j u d=>?_⟩;rw[qz]at d;obtain⟨x,k,rfl⟩:=Option.map_eq_some_iff.1 d;have g:(⟨b,off,none⟩:Addr).add j=⟨b,off+j,none⟩:=by unfold Addr.add;split<;>simp_all
  rw[g];exact i j x k
theorem KH{w:World}{base:Nat}{a b:Value}{l m:List Int}(o:jP w base a l)(p:ju w b m)(u:l.length+m.length<=1000000)(k:base<=w.heap.size)(f:TypeId):
  ∃A c w',(Builtin.append_ #[37,37] f #[a,b]).run prog w = .ok (.slice A (l.length+m.length) c) w'/\jP w' base (.slice A (l.length+m.length) c) (l++m)/\w.grownBy w' a.ownBlock/\((Value.slice A (l.length+m.length) c).ownBlock=a.ownBlock∨(Value.slice A (l.length+m.length) c).ownBlock=some w.heap.size):=by
 obtain⟨t,n,q,r,s⟩:=info_parts ny;obtain⟨v,w',g,d,i,j⟩:=cr (P:=prog) w base 37 3 t _ 1 8 f Tryz.underlying37 n q r s rfl (by decide) a l.length (l.map cq) o b m.length (m.map cq) p.src MC (by unfold maxLen;omega) (by omega) k;obtain⟨A,c,rfl,-,-,-⟩:=v8 d;refine⟨A,c,w',g, ?_,i,j⟩;unfold jP;rw[List.map_append,qI];exact d
theorem tR{B:Nat}{w w':World}{v:Value}(h:w.grownBy w' v.ownBlock)(b:B<=w.heap.size)(a:∀k,v.ownBlock=some k->B<=k):Below B w w':=⟨h.os,h.tape,h.output,h.size,fun k c=>h.block k (by omega) (fun e=>by have:=a k e.symm;omega)⟩
theorem KI(A:Option Addr)(n c:Nat)(w:World):(binOp .eql 37 (.slice A n c) (.slice none 0 0)).run prog w = .ok (.bool A.isNone) w:=by
 have a:=run_equal_slice_nil (P:=prog) w 37 3 A n c Tryz.underlying37;simp only[binOp];simp[a]
def bl(w:World)(l:List Int)(e:Ending)(w':World):Prop:=∃A c,e = .returned (.slice A l.length c)/\jP w' w.heap.size (.slice A l.length c) l/\Below w.heap.size w w'
theorem MD(v:Value)(l:List Int)(w:World)(h:ju w v l)(r:l.length<=500000):Calls prog 105 #[v] w (bl w l):=by
 obtain⟨A,off,n,rfl,-,-⟩:=h.form;cases A with
 | none =>
   have G:l=[]:=by
    rcases h with⟨e,_⟩|⟨b,K,J,e,_⟩
    ·exact e
    ·cases e
   subst G;have I:=fun W=>KI none 0 n W
   clear h r;go_enter func105,ntmps105;go_wp2;go_ret;exact⟨none,0,rfl,jP.nil _ _,Below.refl _ _⟩
 | some a =>
   have f:=(Below.refl w.heap.size w).alloc (qZ _) (.cells #[] 3);have s:jP (w.alloc (.cells #[] 3)) w.heap.size (.slice (some ⟨w.heap.size,0,none⟩) 0 0) []:=World.ownsRow_made w #[] 0 (qZ _) (qH _) rfl;have p:=h.below f (qZ _);obtain⟨u,C,L,c,d,o,D⟩:=KH s p (by simp;omega) (by simp) 37;have q:=f.trans (tR o (B:=w.heap.size) (by simp) (fun k F=>by simp[Value.ownBlock]at F;omega));have z:=qQ q;rw[List.nil_append]at d;have t:([]:List Int).length+l.length=l.length:=(by simp);rw[t]at c d;have i:=qQ d;clear h r f s p d o D q t;obtain⟨m,g⟩:∃m,m=l.length:=⟨_,rfl⟩
   have j:=qQ g;rw[<-g]at c i ⊢;clear g;have y:=qQ c;have I:=fun W=>KI (some a) m n W
   clear c;go_enter func105,ntmps105;go_wp2_with (first | (at_builtin;refine yc rfl _ _ rfl rfl rfl y.out ?_) | fail);go_ret;exact⟨u,C,by rw[<-j.out];rfl,by rw[<-j.out];exact i.out,z.out⟩
structure LvS where
 v:Value
 l:List Int
abbrev lvl(L:List LvS):List (List Int):=L.map LvS.l
abbrev uz(L:List LvS):List Value:=L.map LvS.v
def cz(w:World)(L:List LvS):Prop:=∀x∈L,ju w x.v x.l
def bn(w:World)(v:Value)(L:List LvS):Prop :=
 (L=[]/\∃a c,v = .slice a 0 c)∨∃b off d,v = .slice (some ⟨b,off,none⟩) L.length d/\L.length<=d/\d<=maxLen/\b<w.heap.size/\∀i x,L[i]? = some x->w.cell? ⟨b,off+i,none⟩=some x.v
def lE(w:World)(v:Value)(L:List LvS):Prop:=bn w v L/\cz w L
theorem cz.below{w w':World}{L:List LvS}{B:Nat}(h:cz w L)(b:Below B w w')(a:w.heap.size<=B):cz w' L:=fun x c=>(h x c).below b a
theorem bn.below{w w':World}{v:Value}{L:List LvS}{B:Nat}(h:bn w v L)(a:Below B w w')(f:w.heap.size<=B):bn w' v L:=by
 rcases h with h|⟨b,off,d,l,j,k,c,g⟩
 ·exact qX h
 ·exact qY ⟨b,off,d,l,j,k,qP c a.size,fun i x m=>(a.cell (p:=⟨b,off+i,none⟩) (qP c f)).trans (g i x m)⟩
theorem lE.below{w w':World}{v:Value}{L:List LvS}{B:Nat}(h:lE w v L)(b:Below B w w')(a:w.heap.size<=B):lE w' v L:=⟨h.1.below b a,h.2.below b a⟩
theorem bn.form{w:World}{v:Value}{L:List LvS}(h:bn w v L):∃A off d,v = .slice A L.length d/\L.length<=maxLen /\
  ∀i x,L[i]? = some x->∃b,A=some ⟨b,off,none⟩/\b<w.heap.size/\w.cell? ⟨b,off+i,none⟩=some x.v:=by
 rcases h with⟨rfl,a,c,rfl⟩|⟨b,off,d,rfl,k,l,f,g⟩
 ·exact⟨a,0,c,rfl,qH _,fun i x h=>by simp at h⟩
 ·exact⟨some ⟨b,off,none⟩,off,d,rfl,by omega,fun i x j=>⟨b,rfl,f,g i x j⟩⟩
theorem cz.one{w:World}{L:List LvS}(h:cz w L):∀u∈uz L,u.oneCell'=true:=by
 intro u a;obtain⟨x,b,rfl⟩:=qN.1 a;obtain⟨A,off,c,e,-,-⟩:=(h x b).form;rw[e];rfl
abbrev j4(w:World)(base:Nat)(v:Value)(L:List LvS):Prop:=w.ownsRow base 37 1 v L.length (uz L)
theorem j4.nil(w:World)(base:Nat):j4 w base (.slice none 0 0) []:=World.ownsRow_nil _ _ _ _
theorem j4.at_{w:World}{base:Nat}{v:Value}{L:List LvS}(h:j4 w base v L):bn w v L:=by
 have b:=h;rcases h.2 with⟨a,f⟩|⟨g,d,m,a,n,j,l,k,p,q⟩
 ·exact qX ⟨List.length_eq_zero_iff.1 f,none,0,a⟩
 ·refine qY ⟨g,0,d,a,l,k,(qb.1 j).1,fun i x c=>?_⟩;have o:i<L.length:=(qM.1 c).1;rw[a]at b;rw[Nat.zero_add];refine(b.cellAt i (by omega)).trans ?_;show(L.map LvS.v)[i]? = _;rw[qz,c];rfl
theorem j4.qw{w:World}{base:Nat}{v:Value}{L:List LvS}(h:j4 w base v L)(a:cz w L):lE w v L:=⟨h.at_,a⟩
theorem j4.below{w w':World}{base B:Nat}{v:Value}{L:List LvS}(h:j4 w base v L)(i:Below B w w')(f:w.heap.size<=B):j4 w' base v L:=by
 refine⟨h.1, ?_⟩;rcases h.2 with d|⟨g,b,c,l,j,a,r⟩
 ·exact qX d
 ·obtain⟨k,_⟩:=qb.1 a;exact qY ⟨g,b,c,l,j,(i.block g (qP k f)).trans a,r⟩
theorem j4.block{w:World}{base:Nat}{v:Value}{L:List LvS}(h:j4 w base v L):∀k,v.ownBlock=some k->base<=k:=by
 intro k a;rcases h.2 with⟨rfl,_⟩|⟨g,c,d,rfl,b,_⟩
 ·cases a
 ·cases a;exact b
theorem j4.down{w:World}{base base':Nat}{v:Value}{L:List LvS}(h:j4 w base v L)(d:base'<=base):j4 w base' v L:=by
 refine⟨h.1, ?_⟩;rcases h.2 with c|⟨g,a,b,i,f,r⟩
 ·exact qX c
 ·exact qY ⟨g,a,b,i,qR d f,r⟩
theorem j4.some_{w:World}{base n c:Nat}{A:Option Addr}{L:List LvS}(h:j4 w base (.slice A n c) L)(k:0<L.length):∃g,A=some ⟨g,0,none⟩/\base<=g/\g<w.heap.size/\n=L.length:=by
 rcases h.2 with⟨a,j⟩|⟨g,f,i,a,b,d,_⟩
 ·omega
 ·obtain⟨rfl,rfl,-⟩:=Value.slice.inj a;exact⟨g,rfl,b,(qb.1 d).1,rfl⟩
theorem j4.cell{w:World}{base g n c i:Nat}{L:List LvS}{x:LvS}(h:j4 w base (.slice (some ⟨g,0,none⟩) n c) L)(b:n=L.length)(a:L[i]? = some x):w.cell? ⟨g,i,none⟩=some x.v/\w.frozen? ⟨g,i,none⟩=false:=by
 subst b;have d:i<L.length:=(qM.1 a).1;refine⟨(h.cellAt i (by omega)).trans ?_,h.frozenAt i⟩;show(L.map LvS.v)[i]? = _;rw[qz,a];rfl
theorem j4.put{w:World}{base g n c i:Nat}{L:List LvS}(h:j4 w base (.slice (some ⟨g,0,none⟩) n c) L)(b:n=L.length)(x:LvS):j4 (w.setCell ⟨g,i,none⟩ x.v) base (.slice (some ⟨g,0,none⟩) n c) (L.set i x):=by
 subst b;have a:=(h.stored i x.v).1;unfold j4 uz;rw[List.length_set,List.map_set];exact a
theorem KL: (prog.info? 37).map (fun i=>(i.zero,i.size,i.bytes))=some (some (.slice none 0 0),1,24):=by kernel_rfl
theorem bn.src{w:World}{v:Value}{L:List LvS}(h:bn w v L):cW w 1 v L.length (uz L):=by
 refine⟨by unfold uz;rw[qj,Nat.mul_one], ?_⟩;rcases h with⟨rfl,a,c,rfl⟩|⟨b,off,f,rfl,l,m,n,i⟩
 ·cases a with
  | none=>exact qX ⟨c,rfl,rfl⟩
  | some a=>exact qY ⟨a,c,rfl,fun j u d=>by cases d⟩
 ·refine qY ⟨⟨b,off,none⟩,f,rfl,fun j u d=>?_⟩;unfold uz at d;rw[qz]at d;obtain⟨x,k,rfl⟩:=Option.map_eq_some_iff.1 d;have g:(⟨b,off,none⟩:Addr).add j=⟨b,off+j,none⟩:=by unfold Addr.add;split<;>simp_all
  rw[g];exact i j x k
theorem ME{w:World}{base:Nat}{a b:Value}{L M:List LvS}(n:j4 w base a L)(o:bn w b M)(k:∀u∈uz M,u.oneCell'=true)(t:L.length+M.length<=1000000)(l:base<=w.heap.size)(f:TypeId):
  ∃A c w',(Builtin.append_ #[45,45] f #[a,b]).run prog w = .ok (.slice A (L.length+M.length) c) w'/\j4 w' base (.slice A (L.length+M.length) c) (L++M)/\w.grownBy w' a.ownBlock/\((Value.slice A (L.length+M.length) c).ownBlock=a.ownBlock∨(Value.slice A (L.length+M.length) c).ownBlock=some w.heap.size):=by
 obtain⟨s,m,p,q,r⟩:=info_parts KL;obtain⟨v,w',g,d,i,j⟩:=cr (P:=prog) w base 45 37 s _ 1 24 f Tryz.underlying45 m p q r rfl (by decide) a L.length (uz L) n b M.length (uz M) o.src k (by unfold maxLen;omega) (by omega) l;obtain⟨A,c,rfl,-,-,-⟩:=v8 d;refine⟨A,c,w',g, ?_,i,j⟩;unfold j4 uz;rw[List.map_append,qI];exact d
theorem tS: (37:TypeId)≠3:=by decide
theorem jP.xE{w:World}{base base' g n c i:Nat}{v x:Value}{L:List LvS}{l:List Int}(h:jP w base v l)(b:j4 w base' (.slice (some ⟨g,0,none⟩) n c) L):jP (w.setCell ⟨g,i,none⟩ x) base v l :=
 vW h (fun a=>cG b h tS g a rfl) x
theorem j4.alloc{w:World}{base:Nat}{v:Value}{L:List LvS}(h:j4 w base v L)(o:Obj):j4 (w.alloc o) base v L:=j4.below h ((Below.refl w.heap.size w).alloc (qZ _) o) (qZ _)
def bB(w:World)(base:Nat)(M:List LvS):Prop:=∀x∈M,jP w base x.v x.l
theorem bB.each{w:World}{base:Nat}{M:List LvS}(h:bB w base M):cz w M:=fun x a=>jP.qw (h x a)
theorem bB.below{w w':World}{base B:Nat}{M:List LvS}(h:bB w base M)(b:Below B w w')(a:w.heap.size<=B):bB w' base M:=fun x c=>jP.below (h x c) b a
theorem bB.down{w:World}{base base':Nat}{M:List LvS}(h:bB w base M)(a:base'<=base):bB w base' M:=fun x b=>jP.down (h x b) a
def pG(M:List LvS):Prop:=∀(i j:Nat) (x y:LvS),M[i]? = some x->M[j]? = some y->i≠j->∀g,x.v.ownBlock=some g->y.v.ownBlock≠some g
theorem pG.set{M:List LvS}{k:Nat}{x:LvS}(h:pG M)(m:∀g,x.v.ownBlock=some g->∀j y,j≠k->M[j]? = some y->y.v.ownBlock≠some g):pG (M.set k x):=by
 intro i j a b d c l g f;rw[List.getElem?_set]at d c;split at d
 ·rename_i e;subst e;split at d
  ·obtain rfl:x=a:=(by simpa using d);rw[qJ l]at c;exact m g f j b (fun e=>l e.symm) c
  ·cases d
 ·rename_i e;split at c
  ·rename_i n;subst n;split at c
   ·obtain rfl:x=b:=(by simpa using c);intro p;exact m g p i a (fun o=>e o.symm) d f
   ·cases c
  ·exact h i j a b d c l g f
theorem MF{L:List LvS}{k:Nat}{y:LvS}(h:L[k]? = some y):(lvl L)[k]? = some y.l:=by unfold lvl;rw[qz,h];rfl
theorem lF(L:List LvS):(lvl L).length=L.length:=qj _
theorem KM(L:List LvS)(i:Nat)(x:LvS):lvl (L.set i x)=(lvl L).set i x.l:=List.map_set
theorem MH(L:List LvS)(k:Nat):lvl (L.take k)=(lvl L).take k:=List.map_take
def kz(w:World)(base:Nat)(v:Value)(R:LvL):Prop:=∃M,j4 w base v M/\bB w base M/\lvl M=R
theorem kz.below{w w':World}{base B:Nat}{v:Value}{R:LvL}(h:kz w base v R)(b:Below B w w')(a:w.heap.size<=B):kz w' base v R:=by
 obtain⟨M,c,d,f⟩:=h;exact⟨M,j4.below c b a,d.below b a,f⟩
theorem kz.down{w:World}{base base':Nat}{v:Value}{R:LvL}(h:kz w base v R)(a:base'<=base):kz w base' v R:=by
 obtain⟨M,b,c,d⟩:=h;exact⟨M,j4.down b a,c.down a,d⟩
theorem kz.nil(w:World)(base:Nat):kz w base (.slice none 0 0) []:=⟨[],j4.nil _ _,fun x a=>(by cases a),rfl⟩
def kQ(w:World)(v:Value)(R:LvL):Prop:=∃M,lE w v M/\lvl M=R
theorem kz.has{w:World}{base:Nat}{v:Value}{R:LvL}(h:kz w base v R):kQ w v R:=by
 obtain⟨M,a,b,c⟩:=h;exact⟨M,j4.qw a b.each,c⟩
theorem kQ.below{w w':World}{v:Value}{R:LvL}{B:Nat}(h:kQ w v R)(d:Below B w w')(c:w.heap.size<=B):kQ w' v R:=by
 obtain⟨M,a,b⟩:=h;exact⟨M,a.below d c,b⟩
theorem kQ.form{w:World}{v:Value}{R:LvL}(h:kQ w v R):∃A off a,v = .slice A R.length a/\R.length<=maxLen /\
  ∀i x,R[i]? = some x->∃b u,A=some ⟨b,off,none⟩/\b<w.heap.size/\w.cell? ⟨b,off+i,none⟩=some u/\ju w u x:=by
 obtain⟨M,d,rfl⟩:=h;obtain⟨A,off,a,n,m,l⟩:=d.1.form;rw[lF];refine⟨A,off,a,n,m,fun i x c=>?_⟩;unfold lvl at c;rw[qz]at c;obtain⟨y,f,rfl⟩:=Option.map_eq_some_iff.1 c;obtain⟨b,g,j,k⟩:=l i y f;exact⟨b,y.v,g,j,k,d.2 y (qO f)⟩
theorem kQ.nil(w:World)(A:Option Addr)(c:Nat):kQ w (.slice A 0 c) []:=⟨[],⟨qX ⟨rfl,A,c,rfl⟩,fun x a=>(by cases a)⟩,rfl⟩
end
section
open Go.RowKit
def uC(x:jD):Int:=chk x.t x.d
def dN(x:jD):Tw:=evB x.t x.d x.b
def yA: List jD->Int
 | []=>0
 | x::l=>if uC x=0 then yA l else uC x
def jg(s:Tw)(f:Int)(l:List jD):Int :=
 if s.size=0∨l.length=0 then 2 else if 32<s.size∨8<l.length then 3 else if f<0∨1073741824-(l.length:Int)<f then 2 else yA l
theorem KN: ∀ {l:List jD},yA l=0↔∀x∈l,uC x=0
 | []=>by simp[yA]
 | x::l=>by
   unfold yA;by_cases h:uC x=0
   ·rw[qK h,KN];simp[h]
   ·rw[qJ h];simp[h]
theorem tT: ∀ {l:List jD} {k:Nat},(∀i x,i<k->l[i]? = some x->uC x=0)->yA l=yA (l.drop k)
 | [],k,h=>by simp
 | x::l,0,h=>rfl
 | x::l,k+1,h=>by
   rw[List.drop_succ_cons,<-tT (l:=l) (k:=k) (fun i y hi hy=>h (i+1) y (by omega) (by simpa using hy))];unfold yA;rw[qK (h 0 x (by omega) rfl)];cases l<;>rfl
theorem MI{l:List jD}{k:Nat}{x:jD}(h:∀i x,i<k->l[i]? = some x->uC x=0)(c:l[k]? = some x)(a:¬uC x=0):yA l=uC x:=by
 obtain⟨b,e⟩:=qM.1 c;rw[tT h,List.drop_eq_getElem_cons b,e,yA,qJ a]
theorem ML{l:List jD}{k:Nat}(h:∀i x,i<k->l[i]? = some x->uC x=0)(a:l.length<=k):yA l=0:=by
 rw[tT h,List.drop_eq_nil_of_le a];rfl
theorem KO: ∀l:List jD,yA l=0∨yA l=2∨yA l=3
 | []=>qX rfl
 | x::l=>by
   unfold yA;by_cases h:uC x=0
   ·rw[qK h];exact KO l
   ·rw[qJ h];rcases tE x.t x.d with h' | h'
    ·exact absurd h' h
    ·exact qY h'
theorem tj{s:Tw}{f:Int}{l:List jD}(h:s.size=0∨l.length=0):jg s f l=2:=by unfold jg;rw[qK h]
theorem tk{s:Tw}{f:Int}{l:List jD}(h:¬(s.size=0∨l.length=0))(a:32<s.size∨8<l.length):jg s f l=3:=by unfold jg;rw[qJ h,qK a]
theorem tb{s:Tw}{f:Int}{l:List jD}(h:¬(s.size=0∨l.length=0))(a:¬(32<s.size∨8<l.length))(b:f<0∨1073741824-(l.length:Int)<f):jg s f l=2:=by unfold jg;rw[qJ h,qJ a,qK b]
theorem tc{s:Tw}{f:Int}{l:List jD}(h:¬(s.size=0∨l.length=0))(a:¬(32<s.size∨8<l.length))(b:¬(f<0∨1073741824-(l.length:Int)<f)):jg s f l=yA l:=by unfold jg;rw[qJ h,qJ a,qJ b]
theorem gU{s:Tw}{f:Int}{l:List jD}:jg s f l=0↔(1<=s.size/\s.size<=32/\1<=l.length/\l.length<=8/\0<=f/\f<=1073741824-(l.length:Int)/\∀x∈l,uC x=0):=by
 by_cases h:s.size=0∨l.length=0
 ·rw[tj h];omega
 ·by_cases a:32<s.size∨8<l.length
  ·rw[tk h a];omega
  ·by_cases c:f<0∨1073741824-(l.length:Int)<f
   ·rw[tb h a c];omega
   ·rw[tc h a c,KN];constructor
    ·intro b;exact⟨by omega,by omega,by omega,by omega,by omega,by omega,b⟩
    ·rintro ⟨_,_,_,_,_,_,b⟩;exact b
theorem MM(s:Tw)(f:Int)(l:List jD):jg s f l=0∨jg s f l=2∨jg s f l=3:=by
 by_cases h:s.size=0∨l.length=0
 ·rw[tj h];omega
 ·by_cases a:32<s.size∨8<l.length
  ·rw[tk h a];omega
  ·by_cases b:f<0∨1073741824-(l.length:Int)<f
   ·rw[tb h a b];omega
   ·rw[tc h a b];exact KO l
def kA: List jD->Tw
 | []=>ByteArray.empty
 | x::l=>dN x++kA l
theorem KP: ∀(l:List jD) (x:jD),kA (l++[x])=kA l++dN x
 | [],x=>by simp[kA]
 | y::l,x=>by rw[List.cons_append,kA,kA,KP l x,ByteArray.append_assoc]
theorem KR{l:List jD}(h:∀x∈l,uC x=0):(kA l).size<=l.length*228:=by
 induction l with
 | nil=>simp[kA]
 | cons x l b =>
   have c:=b (fun y a=>h y (qF _ a));have d:=mw.1 (h x (qB ..));rw[kA,qT,dN,Jb,qk];omega
def fH(s:Tw)(f n:Nat):Tw:=bs (be 2 s.size)++s++bs (be 8 f)++bs (be 1 n)
theorem KS(s:Tw)(f n:Nat):(fH s f n).size=s.size+11:=by
 unfold fH;simp only[ByteArray.size_append,jh,jO];omega
def yi(s:Tw)(f:Nat)(l:List jD):Tw:=fH s f l.length++kA l
def td(s:Tw)(f:Int)(l:List jD):Tw:=if jg s f l=0 then yi s f.toNat l else ByteArray.empty
theorem MN{s:Tw}{f:Int}{l:List jD}(h:jg s f l=0):1<=(yi s f.toNat l).size/\(yi s f.toNat l).size<=2000:=by
 obtain⟨b,c,d,g,i,j,a⟩:=gU.1 h;have:=KR a;unfold yi;rw[qT,KS];omega
def vp: Nat->Tw->Option (List jD × Tw)
 | 0,s=>some ([],s)
 | n+1,s=>if vu s=true then(vp n (erR s)).map (fun p=>(⟨erT s,erD s,erW s⟩::p.1,p.2)) else none
structure lH(x:jD):Prop where
 c:uC x=0
 b:x.b<18446744073709551616
theorem KT: ∀ {n:Nat} {s:Tw} {l:List jD} {r:Tw},vp n s=some (l,r)->kA l++r=s/\l.length=n/\∀x∈l,lH x
 | 0,s,l,r,h=>by
   simp only[vp,Option.some.injEq,Prod.mk.injEq]at h;obtain⟨rfl,rfl⟩:=h;exact⟨by simp[kA],rfl,fun x a=>by cases a⟩
 | n+1,s,l,r,h=>by
   unfold vp at h;by_cases b:vu s=true
   ·rw[qK b]at h;cases c:vp n (erR s) with
    | none=>rw[c]at h;cases h
    | some p =>
      obtain⟨k,m⟩:=p;rw[c]at h;simp only[Option.map_some,Option.some.injEq,Prod.mk.injEq]at h;obtain⟨rfl,rfl⟩:=h;obtain⟨d,f,g⟩:=KT c;obtain⟨i,j⟩:=L3 b;refine⟨?_,by rw[qk,f],fun x a=>?_⟩
      ·rw[kA,ByteArray.append_assoc,d];exact j
      ·rcases qL.1 a with rfl|a
       ·exact⟨i,LP s⟩
       ·exact g x a
   ·rw[qJ b]at h;cases h
theorem K5: ∀ {l:List jD} {r:Tw},(∀x∈l,lH x)->vp l.length (kA l++r)=some (l,r)
 | [],r,_=>by simp[vp,kA]
 | x::l,r,h=>by
   have hx:=h x (qB ..);obtain⟨f,g,i,j,k⟩:=L2 x.t x.d x.b (kA l++r) hx.c hx.b;rw[qk,vp,kA,ByteArray.append_assoc];unfold dN;rw[qK f,g,i,j,k,K5 (fun y a=>h y (qF _ a))];rfl
theorem MO{n:Nat}{s:Tw}(h:vu s=true):vp (n+1) s=(vp n (erR s)).map (fun p=>(⟨erT s,erD s,erW s⟩::p.1,p.2)):=by rw[vp,qK h]
theorem MP{n:Nat}{s:Tw}(h:vu s=false):vp (n+1) s=none:=by rw[vp,qJ (by rw[h];decide)]
def bgM(s:Tw):Nat:=if h:8<(rdB s).size then((rdB s)[8]).toNat else 0
theorem K6(s:Tw):bgM s<256:=by
 unfold bgM;split
 ·exact UInt8.toNat_lt _
 ·omega
def tf(s:Tw):Tw:=(rdB s).extract 9 (rdB s).size
def gG(s:Tw):Bool:=kh s&&decide (9<=(rdB s).size)&&decide (jJ (rdB s)<=1073741824)
def bC(s:Tw):Option (List jD × Tw):=vp (bgM s) (tf s)
def kK(s:Tw):Bool:=gG s&&match bC s with
 | none=>false
 | some (l,r)=>decide (r.size=0)&&decide (jg (rdA s) (jJ (rdB s):Nat) l=0)
def bgS(s:Tw):Tw:=if kK s=true then rdA s else ByteArray.empty
def bgF(s:Tw):Int:=if kK s=true then(jJ (rdB s):Nat) else 0
def bgL(s:Tw):List jD:=if kK s=true then((bC s).map (·.1)).getD [] else []
def bgE(s:Tw):Int:=if kK s=true then 0 else 10
theorem MR{s:Tw}(h:kK s=false):bgS s=ByteArray.empty/\bgF s=0/\bgL s=[]/\bgE s=10:=by simp[bgS,bgF,bgL,bgE,h]
theorem br{s:Tw}(h:kK s=true):gG s=true/\bgS s=rdA s/\bgF s=(jJ (rdB s):Nat)/\bgE s=0/\bC s=some (bgL s,ByteArray.empty)/\jg (bgS s) (bgF s) (bgL s)=0:=by
 have i:bgS s=rdA s/\bgF s=(jJ (rdB s):Nat)/\bgE s=0/\bgL s=((bC s).map (·.1)).getD []:=by simp[bgS,bgF,bgE,bgL,h]
 obtain⟨a,b,d,f⟩:=i;unfold kK at h;rw[Bool.and_eq_true]at h;obtain⟨g,h⟩:=h;refine⟨g,a,b,d, ?_⟩;rw[a,b,f];cases c:bC s with
 | none=>rw[c]at h;cases h
 | some p =>
   obtain⟨l,r⟩:=p;rw[c]at h;simp only[Bool.and_eq_true,decide_eq_true_eq]at h;obtain⟨k,j⟩:=h;have:r=ByteArray.empty:=ByteArray.ext (Array.eq_empty_of_size_eq_zero k);subst this;exact⟨rfl,j⟩
theorem K7{s:Tw}{l:List jD}(h:gG s=true)(b:bC s=some (l,ByteArray.empty))(a:jg (rdA s) (jJ (rdB s):Nat) l=0):kK s=true:=by
 unfold kK;rw[h,b];simp[a]
theorem MS{s:Tw}{l:List jD}{r:Tw}(b:bC s=some (l,r))(a:¬r.size=0∨¬jg (rdA s) (jJ (rdB s):Nat) l=0):kK s=false:=by
 unfold kK;rw[b];rcases a with h|h<;>simp[h]
theorem K8{s:Tw}(h:gG s=false):kK s=false:=by
 unfold kK;rw[h];rfl
theorem MT(s:Tw)(f:Nat)(l:List jD)(r:Tw)(u:s.size<=65535)(A:f<=1073741824)(n:l.length<256)(v:∀x∈l,lH x):
  gG (yi s f l++r)=true/\rdA (yi s f l++r)=s/\jJ (rdB (yi s f l++r))=f/\bC (yi s f l++r)=some (l,r):=by
 have e:yi s f l++r=bs (be 2 s.size)++s++(bs (be 8 f)++(bs (be 1 l.length)++(kA l++r))):=by
  unfold yi fH;simp only[ByteArray.append_assoc]
 obtain⟨j,a,k⟩:=tH (t:=s) (r:=bs (be 8 f)++(bs (be 1 l.length)++(kA l++r))) u;obtain⟨c,z⟩:=Jf (b:=f) (by omega) (bs (be 1 l.length)++(kA l++r));have i:(bs (be 8 f)++(bs (be 1 l.length)++(kA l++r))).size=9+(kA l++r).size:=by simp only[ByteArray.size_append,jh,jO];omega
 have d:(bs (be 8 f)++(bs (be 1 l.length)++(kA l++r))).data.toList=be 8 f++(UInt8.ofNat l.length::(kA l++r).data.toList):=by
  simp only[ByteArray.data_append,Array.toList_append,bs,be];simp
 rw[e];refine⟨?_,j,by rw[a,c], ?_⟩
 ·unfold gG;rw[a,k,c,i];simp only[Bool.true_and,Bool.and_eq_true,decide_eq_true_eq];omega
 ·unfold bC
  have p:bgM (bs (be 2 s.size)++s++(bs (be 8 f)++(bs (be 1 l.length)++(kA l++r))))=l.length:=by
   unfold bgM;rw[a,dif_pos (by omega)]
   have q:∀(x:Tw) (h:8<x.size) (y:UInt8),x.data.toList[8]? = some y->(x[8]'h)=y:=fun x h y g=>by
    have o:8<x.data.toList.length:=(by rw[cP];exact h);rw[qD o]at g;exact qv g
   rw[q _ _ (UInt8.ofNat l.length) (by rw[d,List.getElem?_append_right (by rw[jO];omega),jO];rfl),UInt8.toNat_ofNat'];exact Nat.mod_eq_of_lt n
  have m:tf (bs (be 2 s.size)++s++(bs (be 8 f)++(bs (be 1 l.length)++(kA l++r))))=kA l++r:=by
   unfold tf;rw[a];apply ByteArray.ext;apply Array.toList_inj.1;rw[ByteArray.data_extract,Array.toList_extract,d,i,List.extract,qg (by rw[List.length_drop,qI,jO,qk,cP];omega)];rw[show(9:Nat)=(be 8 f).length+1 by rw[jO],List.drop_append,List.drop_of_length_le (by omega),Nat.add_sub_cancel_left];rfl
  rw[p,m];exact K5 v
theorem K9{s:Tw}{f:Int}{l:List jD}(h:jg s f l=0)(c:∀x∈l,x.b<18446744073709551616):∀x∈l,lH x:=fun x a=>⟨(gU.1 h).2.2.2.2.2.2 x a,c x a⟩
theorem M4{s:Tw}{f:Int}{l:List jD}(h:jg s f l=0)(m:∀x∈l,x.b<18446744073709551616):
  kK (yi s f.toNat l)=true/\bgS (yi s f.toNat l)=s/\bgF (yi s f.toNat l)=f/\bgL (yi s f.toNat l)=l:=by
 obtain⟨p,q,r,t,u,v,y⟩:=gU.1 h;obtain⟨k,a,c,d⟩:=MT s f.toNat l ByteArray.empty (by omega) (by omega) (by omega) (K9 h m);rw[ByteArray.append_empty]at k a c d;have i:((f.toNat:Nat):Int)=f:=by omega
 have j:=K7 k d (by rw[a,c,i];exact h);obtain⟨_,n,o,_,g,_⟩:=br j;refine⟨j,by rw[n,a],by rw[o,c,i], ?_⟩;rw[d]at g;simp only[Option.some.injEq,Prod.mk.injEq]at g;exact g.1.symm
end
section
open Go.ChangeShapes Go.WideShapes Go.ChangeAt Go.RowKit
section
variable {H:Type}{enc:TypeId × Value -> H}{P:Program}{w:World}{base:Nat}{spare:Nat -> Bool}{held:Bool}
theorem Kq{a:Nat}{t:TypeId}{cs:List Value}{x:DataW H × List MemPlace}(b:P.underlying t=some (.float .f64))(h:DataW.trod enc P w base spare held a t cs=some x):∃n,cs=[.float .f64 n]/\x=(.lit (.float .f64 n),[])/\(Lit.float .f64 n).wf=true:=by
 cases a with
 | zero=>simp[DataW.trod]at h
 | succ n =>
   unfold DataW.trod at h;rw[b]at h;split at h<;>simp_all
end
end
end Go.Proofs.YthejglbnkmimjaaGreat

import Derived.Test.YtokbfellcadkpaaGreatPp05
set_option linter.unusedVariables false
set_option maxRecDepth 100000
set_option maxHeartbeats 9000000
namespace Go.Proofs.YtokbfellcadkpaaGreat
open Tryz
section
open Go.ChangeShapes Go.WideShapes Go.ChangeAt Go.RowKit Go.Deep
def fw(x:Int):Value:=.int .i64 x
theorem kX.form{w:World}{v:Value}{l:List Int}(h:kX w v l):∃A off cap,v = .slice A l.length cap/\l.length<=maxLen /\
  ∀i x,l[i]? = some x->∃b,A=some ⟨b,off,none⟩/\b<w.heap.size/\w.cell? ⟨b,off+i,none⟩=some (.int .i64 x):=by
 rcases h with⟨rfl,a,c,rfl⟩|⟨b,off,cap,rfl,j,k,d,f⟩
 ·exact⟨a,0,c,rfl,qF _,fun i x h=>by simp at h⟩
 ·exact⟨some ⟨b,off,none⟩,off,cap,rfl,by omega,fun i x g=>⟨b,rfl,d,f i x g⟩⟩
theorem T7{l:List Int}:∀u∈l.map fw,u.oneCell'=true:=by
 intro u a;obtain⟨x,-,rfl⟩:=qN.1 a;rfl
abbrev j4(w:World)(base:Nat)(v:Value)(l:List Int):Prop:=w.ownsRow base 3 1 v l.length (l.map fw)
theorem j4.nil(w:World)(base:Nat):j4 w base (.slice none 0 0) []:=World.ownsRow_nil _ _ _ _
theorem j4.xQ{w:World}{base:Nat}{v:Value}{l:List Int}(h:j4 w base v l):kX w v l:=by
 have b:=h;rcases h.2 with⟨a,f⟩|⟨g,d,n,a,o,j,m,k,q,r⟩
 ·exact qX ⟨List.length_eq_zero_iff.1 f,none,0,a⟩
 ·refine qY ⟨g,0,d,a,m,k,(qm.1 j).1,fun i x c=>?_⟩;have p:i<l.length:=(qP.1 c).1;rw[a]at b;rw[Nat.zero_add];refine(b.cellAt i (by omega)).trans ?_;show(l.map fw)[i]? = _;rw[qu,c];rfl
theorem j4.below{w w':World}{base B:Nat}{v:Value}{l:List Int}(h:j4 w base v l)(i:Below B w w')(f:w.heap.size<=B):j4 w' base v l:=by
 refine⟨h.1, ?_⟩;rcases h.2 with d|⟨g,b,c,m,j,a,r⟩
 ·exact qX d
 ·obtain⟨k,_⟩:=qm.1 a;exact qY ⟨g,b,c,m,j,(i.block g (qR k f)).trans a,r⟩
theorem j4.block{w:World}{base:Nat}{v:Value}{l:List Int}(h:j4 w base v l):∀k,v.ownBlock=some k->base<=k/\k<w.heap.size:=fun k a=>h.lt k a
theorem j4.down{w:World}{base base':Nat}{v:Value}{l:List Int}(h:j4 w base v l)(d:base'<=base):j4 w base' v l:=by
 refine⟨h.1, ?_⟩;rcases h.2 with c|⟨g,a,b,i,f,r⟩
 ·exact qX c
 ·exact qY ⟨g,a,b,i,qO d f,r⟩
theorem kX.src{w:World}{v:Value}{l:List Int}(h:kX w v l):dg w 1 v l.length (l.map fw):=by
 refine⟨by rw[qj,Nat.mul_one], ?_⟩;rcases h with⟨rfl,a,c,rfl⟩|⟨b,off,f,rfl,m,n,o,i⟩
 ·cases a with
  | none=>exact qX ⟨c,rfl,rfl⟩
  | some a=>exact qY ⟨a,c,rfl,fun j u d=>by cases d⟩
 ·refine qY ⟨⟨b,off,none⟩,f,rfl,fun j u d=>?_⟩;rw[qu]at d;obtain⟨x,k,rfl⟩:=Option.map_eq_some_iff.1 d;have g:(⟨b,off,none⟩:Addr).add j=⟨b,off+j,none⟩:=by unfold Addr.add;split<;>simp_all
  rw[g];exact i j x k
theorem T8(w:World)(x:Int):kX (w.alloc (.cells #[.int .i64 x] 3)) (.slice (some ⟨w.heap.size,0,none⟩) 1 1) [x]:=by
 refine qY ⟨w.heap.size,0,1,rfl,qK _,by unfold maxLen;omega,by simp,fun i y a=>?_⟩
 match i,a with
 | 0,a =>
   obtain rfl:x=y:=(by simpa using a);simp
theorem JX{w:World}{base:Nat}{a b:Value}{l m:List Int}(o:j4 w base a l)(p:kX w b m)(u:l.length+m.length<=1000000)(k:base<=w.heap.size)(f:TypeId):
  ∃A c w',(Builtin.append_ #[96,96] f #[a,b]).run prog w = .ok (.slice A (l.length+m.length) c) w'/\j4 w' base (.slice A (l.length+m.length) c) (l++m)/\w.grownBy w' a.ownBlock/\((Value.slice A (l.length+m.length) c).ownBlock=a.ownBlock∨(Value.slice A (l.length+m.length) c).ownBlock=some w.heap.size):=by
 obtain⟨t,n,q,r,s⟩:=info_parts sW;obtain⟨v,w',g,d,i,j⟩:=fE (P:=prog) w base 96 3 t _ 1 8 f Tryz.underlying96 n q r s rfl (by decide) a l.length (l.map fw) o b m.length (m.map fw) p.src T7 (by unfold maxLen;omega) (by omega) k;obtain⟨A,c,rfl,-,-,-⟩:=yw d;refine⟨A,c,w',g, ?_,i,j⟩;unfold j4;rw[List.map_append,qI];exact d
theorem QQ{B:Nat}{w w':World}{v:Value}(h:w.grownBy w' v.ownBlock)(b:B<=w.heap.size)(a:∀k,v.ownBlock=some k->B<=k):Below B w w':=⟨h.os,h.tape,h.output,h.size,fun k c=>h.block k (by omega) (fun e=>by have:=a k e.symm;omega)⟩
theorem GL(A:Option Addr)(n c:Nat)(w:World):(binOp .eql 96 (.slice A n c) (.slice none 0 0)).run prog w = .ok (.bool A.isNone) w:=by
 have a:=run_equal_slice_nil (P:=prog) w 96 3 A n c Tryz.underlying96;simp only[binOp];simp[a]
def bI(w:World)(l:List Int)(e:Ending)(w':World):Prop:=∃A c,e = .returned (.slice A l.length c)/\j4 w' w.heap.size (.slice A l.length c) l/\Below w.heap.size w w'
theorem JZ(v:Value)(l:List Int)(w:World)(h:kX w v l)(r:l.length<=500000):Calls prog 105 #[v] w (bI w l):=by
 obtain⟨A,off,n,rfl,-,-⟩:=h.form;cases A with
 | none =>
   have G:l=[]:=by
    rcases h with⟨e,_⟩|⟨b,K,J,e,_⟩
    ·exact e
    ·cases e
   subst G;have I:=fun W=>GL none 0 n W
   clear h r;go_enter func105,ntmps105;go_wp2;go_ret;exact⟨none,0,rfl,j4.nil _ _,Below.refl _ _⟩
 | some a =>
   have f:=(Below.refl w.heap.size w).alloc (qK _) (.cells #[] 3);have s:j4 (w.alloc (.cells #[] 3)) w.heap.size (.slice (some ⟨w.heap.size,0,none⟩) 0 0) []:=World.ownsRow_made w #[] 0 (qK _) (qF _) rfl;have p:=h.below f (qK _);obtain⟨u,C,L,c,d,o,D⟩:=JX s p (by simp;omega) (by simp) 96;have q:=f.trans (QQ o (B:=w.heap.size) (by simp) (fun k F=>by simp[Value.ownBlock]at F;omega));have z:=qQ q;rw[List.nil_append]at d;have t:([]:List Int).length+l.length=l.length:=(by simp);rw[t]at c d;have i:=qQ d;clear h r f s p d o D q t;obtain⟨m,g⟩:∃m,m=l.length:=⟨_,rfl⟩
   have j:=qQ g;rw[<-g]at c i ⊢;clear g;have y:=qQ c;have I:=fun W=>GL (some a) m n W
   clear c;go_enter func105,ntmps105;go_wp2_with (first | (at_builtin;refine yI rfl _ _ rfl rfl rfl y.out ?_) | fail);go_ret;exact⟨u,C,by rw[<-j.out];rfl,by rw[<-j.out];exact i.out,z.out⟩
structure LvS where
 v:Value
 l:List Int
abbrev lvl(L:List LvS):List (List Int):=L.map LvS.l
abbrev gX(L:List LvS):List Value:=L.map LvS.v
def lQ(w:World)(L:List LvS):Prop:=∀x∈L,kX w x.v x.l
def fK(w:World)(v:Value)(L:List LvS):Prop :=
 (L=[]/\∃a c,v = .slice a 0 c)∨∃b off d,v = .slice (some ⟨b,off,none⟩) L.length d/\L.length<=d/\d<=maxLen/\b<w.heap.size/\∀i x,L[i]? = some x->w.cell? ⟨b,off+i,none⟩=some x.v
def oI(w:World)(v:Value)(L:List LvS):Prop:=fK w v L/\lQ w L
theorem lQ.below{w w':World}{L:List LvS}{B:Nat}(h:lQ w L)(b:Below B w w')(a:w.heap.size<=B):lQ w' L:=fun x c=>(h x c).below b a
theorem fK.below{w w':World}{v:Value}{L:List LvS}{B:Nat}(h:fK w v L)(a:Below B w w')(f:w.heap.size<=B):fK w' v L:=by
 rcases h with h|⟨b,off,d,l,j,k,c,g⟩
 ·exact qX h
 ·exact qY ⟨b,off,d,l,j,k,qR c a.size,fun i x m=>(a.cell (p:=⟨b,off+i,none⟩) (qR c f)).trans (g i x m)⟩
theorem oI.below{w w':World}{v:Value}{L:List LvS}{B:Nat}(h:oI w v L)(b:Below B w w')(a:w.heap.size<=B):oI w' v L:=⟨h.1.below b a,h.2.below b a⟩
theorem fK.form{w:World}{v:Value}{L:List LvS}(h:fK w v L):∃A off cap,v = .slice A L.length cap/\L.length<=maxLen /\
  ∀i x,L[i]? = some x->∃b,A=some ⟨b,off,none⟩/\b<w.heap.size/\w.cell? ⟨b,off+i,none⟩=some x.v:=by
 rcases h with⟨rfl,a,c,rfl⟩|⟨b,off,cap,rfl,j,k,d,f⟩
 ·exact⟨a,0,c,rfl,qF _,fun i x h=>by simp at h⟩
 ·exact⟨some ⟨b,off,none⟩,off,cap,rfl,by omega,fun i x g=>⟨b,rfl,d,f i x g⟩⟩
theorem lQ.one{w:World}{L:List LvS}(h:lQ w L):∀u∈gX L,u.oneCell'=true:=by
 intro u a;obtain⟨x,b,rfl⟩:=qN.1 a;obtain⟨A,off,c,e,-,-⟩:=(h x b).form;rw[e];rfl
abbrev j8(w:World)(base:Nat)(v:Value)(L:List LvS):Prop:=w.ownsRow base 96 1 v L.length (gX L)
theorem j8.nil(w:World)(base:Nat):j8 w base (.slice none 0 0) []:=World.ownsRow_nil _ _ _ _
theorem j8.at_{w:World}{base:Nat}{v:Value}{L:List LvS}(h:j8 w base v L):fK w v L:=by
 have b:=h;rcases h.2 with⟨a,f⟩|⟨g,d,m,a,n,j,l,k,p,q⟩
 ·exact qX ⟨List.length_eq_zero_iff.1 f,none,0,a⟩
 ·refine qY ⟨g,0,d,a,l,k,(qm.1 j).1,fun i x c=>?_⟩;have o:i<L.length:=(qP.1 c).1;rw[a]at b;rw[Nat.zero_add];refine(b.cellAt i (by omega)).trans ?_;show(L.map LvS.v)[i]? = _;rw[qu,c];rfl
theorem j8.xQ{w:World}{base:Nat}{v:Value}{L:List LvS}(h:j8 w base v L)(a:lQ w L):oI w v L:=⟨h.at_,a⟩
theorem j8.below{w w':World}{base B:Nat}{v:Value}{L:List LvS}(h:j8 w base v L)(i:Below B w w')(f:w.heap.size<=B):j8 w' base v L:=by
 refine⟨h.1, ?_⟩;rcases h.2 with d|⟨g,b,c,l,j,a,r⟩
 ·exact qX d
 ·obtain⟨k,_⟩:=qm.1 a;exact qY ⟨g,b,c,l,j,(i.block g (qR k f)).trans a,r⟩
theorem j8.block{w:World}{base:Nat}{v:Value}{L:List LvS}(h:j8 w base v L):∀k,v.ownBlock=some k->base<=k:=by
 intro k a;rcases h.2 with⟨rfl,_⟩|⟨g,c,d,rfl,b,_⟩
 ·cases a
 ·cases a;exact b
theorem j8.down{w:World}{base base':Nat}{v:Value}{L:List LvS}(h:j8 w base v L)(d:base'<=base):j8 w base' v L:=by
 refine⟨h.1, ?_⟩;rcases h.2 with c|⟨g,a,b,i,f,r⟩
 ·exact qX c
 ·exact qY ⟨g,a,b,i,qO d f,r⟩
theorem j8.some_{w:World}{base n c:Nat}{A:Option Addr}{L:List LvS}(h:j8 w base (.slice A n c) L)(k:0<L.length):∃g,A=some ⟨g,0,none⟩/\base<=g/\g<w.heap.size/\n=L.length:=by
 rcases h.2 with⟨a,j⟩|⟨g,f,i,a,b,d,_⟩
 ·omega
 ·obtain⟨rfl,rfl,-⟩:=Value.slice.inj a;exact⟨g,rfl,b,(qm.1 d).1,rfl⟩
theorem j8.cell{w:World}{base g n c i:Nat}{L:List LvS}{x:LvS}(h:j8 w base (.slice (some ⟨g,0,none⟩) n c) L)(b:n=L.length)(a:L[i]? = some x):w.cell? ⟨g,i,none⟩=some x.v/\w.frozen? ⟨g,i,none⟩=false:=by
 subst b;have d:i<L.length:=(qP.1 a).1;refine⟨(h.cellAt i (by omega)).trans ?_,h.frozenAt i⟩;show(L.map LvS.v)[i]? = _;rw[qu,a];rfl
theorem j8.put{w:World}{base g n c i:Nat}{L:List LvS}(h:j8 w base (.slice (some ⟨g,0,none⟩) n c) L)(b:n=L.length)(x:LvS):j8 (w.setCell ⟨g,i,none⟩ x.v) base (.slice (some ⟨g,0,none⟩) n c) (L.set i x):=by
 subst b;have a:=(h.stored i x.v).1;unfold j8 gX;rw[List.length_set,List.map_set];exact a
theorem JJ: (prog.info? 96).map (fun i=>(i.zero,i.size,i.bytes))=some (some (.slice none 0 0),1,24):=by kernel_rfl
theorem fK.src{w:World}{v:Value}{L:List LvS}(h:fK w v L):dg w 1 v L.length (gX L):=by
 refine⟨by unfold gX;rw[qj,Nat.mul_one], ?_⟩;rcases h with⟨rfl,a,c,rfl⟩|⟨b,off,f,rfl,l,m,n,i⟩
 ·cases a with
  | none=>exact qX ⟨c,rfl,rfl⟩
  | some a=>exact qY ⟨a,c,rfl,fun j u d=>by cases d⟩
 ·refine qY ⟨⟨b,off,none⟩,f,rfl,fun j u d=>?_⟩;unfold gX at d;rw[qu]at d;obtain⟨x,k,rfl⟩:=Option.map_eq_some_iff.1 d;have g:(⟨b,off,none⟩:Addr).add j=⟨b,off+j,none⟩:=by unfold Addr.add;split<;>simp_all
  rw[g];exact i j x k
theorem T9{w:World}{base:Nat}{a b:Value}{L M:List LvS}(n:j8 w base a L)(o:fK w b M)(k:∀u∈gX M,u.oneCell'=true)(t:L.length+M.length<=1000000)(l:base<=w.heap.size)(f:TypeId):
  ∃A c w',(Builtin.append_ #[38,38] f #[a,b]).run prog w = .ok (.slice A (L.length+M.length) c) w'/\j8 w' base (.slice A (L.length+M.length) c) (L++M)/\w.grownBy w' a.ownBlock/\((Value.slice A (L.length+M.length) c).ownBlock=a.ownBlock∨(Value.slice A (L.length+M.length) c).ownBlock=some w.heap.size):=by
 obtain⟨s,m,p,q,r⟩:=info_parts JJ;obtain⟨v,w',g,d,i,j⟩:=fE (P:=prog) w base 38 96 s _ 1 24 f Tryz.underlying38 m p q r rfl (by decide) a L.length (gX L) n b M.length (gX M) o.src k (by unfold maxLen;omega) (by omega) l;obtain⟨A,c,rfl,-,-,-⟩:=yw d;refine⟨A,c,w',g, ?_,i,j⟩;unfold j8 gX;rw[List.map_append,qI];exact d
theorem QX: (96:TypeId)≠3:=by decide
theorem j8.grown{w w':World}{base base':Nat}{u v:Value}{L:List LvS}{l:List Int}(h:j8 w base v L)(g:j4 w base' u l)(c:w.grownBy w' u.ownBlock):j8 w' base v L :=
 lC h (F:=u.ownBlock.toList) (jG.grown (jG.refl _ w) c (fun k d=>qX (by rw[d];simp))) (fun b a f=>lD g h QX.symm b a (by simpa using f))
theorem j4.xF{w:World}{base base' g n c i:Nat}{v x:Value}{L:List LvS}{l:List Int}(h:j4 w base v l)(b:j8 w base' (.slice (some ⟨g,0,none⟩) n c) L):j4 (w.setCell ⟨g,i,none⟩ x) base v l :=
 yH h (fun a=>lD b h QX g a rfl) x
theorem j8.alloc{w:World}{base:Nat}{v:Value}{L:List LvS}(h:j8 w base v L)(o:Obj):j8 (w.alloc o) base v L:=j8.below h ((Below.refl w.heap.size w).alloc (qK _) o) (qK _)
def uL(w:World)(base:Nat)(M:List LvS):Prop:=∀x∈M,j4 w base x.v x.l
theorem uL.each{w:World}{base:Nat}{M:List LvS}(h:uL w base M):lQ w M:=fun x a=>j4.xQ (h x a)
theorem uL.below{w w':World}{base B:Nat}{M:List LvS}(h:uL w base M)(b:Below B w w')(a:w.heap.size<=B):uL w' base M:=fun x c=>j4.below (h x c) b a
theorem uL.down{w:World}{base base':Nat}{M:List LvS}(h:uL w base M)(a:base'<=base):uL w base' M:=fun x b=>j4.down (h x b) a
theorem uL.take{w:World}{base:Nat}{M:List LvS}(h:uL w base M)(k:Nat):uL w base (M.take k):=fun x a=>h x (List.mem_of_mem_take a)
def oL(M:List LvS):Prop:=∀(i j:Nat) (x y:LvS),M[i]? = some x->M[j]? = some y->i≠j->∀g,x.v.ownBlock=some g->y.v.ownBlock≠some g
theorem oL.set{M:List LvS}{k:Nat}{x:LvS}(h:oL M)(m:∀g,x.v.ownBlock=some g->∀j y,j≠k->M[j]? = some y->y.v.ownBlock≠some g):oL (M.set k x):=by
 intro i j a b d c l g f;rw[List.getElem?_set]at d c;split at d
 ·rename_i e;subst e;split at d
  ·obtain rfl:x=a:=(by simpa using d);rw[qZ l]at c;exact m g f j b (fun e=>l e.symm) c
  ·cases d
 ·rename_i e;split at c
  ·rename_i n;subst n;split at c
   ·obtain rfl:x=b:=(by simpa using c);intro p;exact m g p i a (fun o=>e o.symm) d f
   ·cases c
  ·exact h i j a b d c l g f
theorem QZ{L:List LvS}{k:Nat}{y:LvS}(h:L[k]? = some y):(lvl L)[k]? = some y.l:=by unfold lvl;rw[qu,h];rfl
theorem gS(L:List LvS):(lvl L).length=L.length:=qj _
theorem rA(L:List LvS)(i:Nat)(x:LvS):lvl (L.set i x)=(lvl L).set i x.l:=List.map_set
theorem GM(L:List LvS)(k:Nat):lvl (L.take k)=(lvl L).take k:=List.map_take
theorem JK{L:List LvS}{k:Nat}{y:LvS}(h:L[k]? = some y):(lvl L).getD k []=y.l:=by rw[qz,QZ h];rfl
def vJ(w:World)(base:Nat)(v:Value)(R:LvL):Prop:=∃M,j8 w base v M/\uL w base M/\lvl M=R
theorem vJ.below{w w':World}{base B:Nat}{v:Value}{R:LvL}(h:vJ w base v R)(b:Below B w w')(a:w.heap.size<=B):vJ w' base v R:=by
 obtain⟨M,c,d,f⟩:=h;exact⟨M,j8.below c b a,d.below b a,f⟩
theorem vJ.down{w:World}{base base':Nat}{v:Value}{R:LvL}(h:vJ w base v R)(a:base'<=base):vJ w base' v R:=by
 obtain⟨M,b,c,d⟩:=h;exact⟨M,j8.down b a,c.down a,d⟩
theorem vJ.nil(w:World)(base:Nat):vJ w base (.slice none 0 0) []:=⟨[],j8.nil _ _,fun x a=>(by cases a),rfl⟩
def jn(w:World)(v:Value)(R:LvL):Prop:=∃M,oI w v M/\lvl M=R
theorem vJ.has{w:World}{base:Nat}{v:Value}{R:LvL}(h:vJ w base v R):jn w v R:=by
 obtain⟨M,a,b,c⟩:=h;exact⟨M,j8.xQ a b.each,c⟩
theorem jn.below{w w':World}{v:Value}{R:LvL}{B:Nat}(h:jn w v R)(d:Below B w w')(c:w.heap.size<=B):jn w' v R:=by
 obtain⟨M,a,b⟩:=h;exact⟨M,a.below d c,b⟩
theorem jn.form{w:World}{v:Value}{R:LvL}(h:jn w v R):∃A off cap,v = .slice A R.length cap/\R.length<=maxLen /\
  ∀i x,R[i]? = some x->∃b u,A=some ⟨b,off,none⟩/\b<w.heap.size/\w.cell? ⟨b,off+i,none⟩=some u/\kX w u x:=by
 obtain⟨M,c,rfl⟩:=h;obtain⟨A,off,cap,m,l,k⟩:=c.1.form;rw[gS];refine⟨A,off,cap,m,l,fun i x a=>?_⟩;unfold lvl at a;rw[qu]at a;obtain⟨y,d,rfl⟩:=Option.map_eq_some_iff.1 a;obtain⟨b,f,g,j⟩:=k i y d;exact⟨b,y.v,f,g,j,c.2 y (qM d)⟩
theorem jn.nil(w:World)(A:Option Addr)(c:Nat):jn w (.slice A 0 c) []:=⟨[],⟨qX ⟨rfl,A,c,rfl⟩,fun x a=>(by cases a)⟩,rfl⟩
end
section
open Go.RowKit
def gT(x:jg):Int:=chk x.t x.d
def lf(x:jg):Tw:=evB x.t x.d x.b
def gq: List jg->Int
 | []=>0
 | x::l=>if gT x=0 then gq l else gT x
def vT(s:Tw)(f:Int)(l:List jg):Int :=
 if s.size=0∨l.length=0 then 2 else if 32<s.size∨8<l.length then 3 else if f<0∨1073741824-(l.length:Int)<f then 2 else gq l
theorem GN: ∀ {l:List jg},gq l=0↔∀x∈l,gT x=0
 | []=>by simp[gq]
 | x::l=>by
   unfold gq;by_cases h:gT x=0
   ·rw[qV h,GN];simp[h]
   ·rw[qZ h];simp[h]
theorem JV: ∀ {l:List jg} {k:Nat},(∀i x,i<k->l[i]? = some x->gT x=0)->gq l=gq (l.drop k)
 | [],k,h=>by simp
 | x::l,0,h=>rfl
 | x::l,k+1,h=>by
   rw[List.drop_succ_cons,<-JV (l:=l) (k:=k) (fun i y hi hy=>h (i+1) y (by omega) (by simpa using hy))];unfold gq;rw[qV (h 0 x (by omega) rfl)];cases l<;>rfl
theorem Tq{l:List jg}{k:Nat}{x:jg}(h:∀i x,i<k->l[i]? = some x->gT x=0)(c:l[k]? = some x)(a:¬gT x=0):gq l=gT x:=by
 obtain⟨b,e⟩:=qP.1 c;rw[JV h,List.drop_eq_getElem_cons b,e,gq,qZ a]
theorem Tx{l:List jg}{k:Nat}(h:∀i x,i<k->l[i]? = some x->gT x=0)(a:l.length<=k):gq l=0:=by
 rw[JV h,List.drop_eq_nil_of_le a];rfl
theorem GO{s:Tw}{f:Int}{l:List jg}(h:s.size=0∨l.length=0):vT s f l=2:=by unfold vT;rw[qV h]
theorem GP{s:Tw}{f:Int}{l:List jg}(h:¬(s.size=0∨l.length=0))(a:32<s.size∨8<l.length):vT s f l=3:=by unfold vT;rw[qZ h,qV a]
theorem GR{s:Tw}{f:Int}{l:List jg}(h:¬(s.size=0∨l.length=0))(a:¬(32<s.size∨8<l.length))(b:f<0∨1073741824-(l.length:Int)<f):vT s f l=2:=by unfold vT;rw[qZ h,qZ a,qV b]
theorem GS{s:Tw}{f:Int}{l:List jg}(h:¬(s.size=0∨l.length=0))(a:¬(32<s.size∨8<l.length))(b:¬(f<0∨1073741824-(l.length:Int)<f)):vT s f l=gq l:=by unfold vT;rw[qZ h,qZ a,qZ b]
theorem lh{s:Tw}{f:Int}{l:List jg}:vT s f l=0↔(1<=s.size/\s.size<=32/\1<=l.length/\l.length<=8/\0<=f/\f<=1073741824-(l.length:Int)/\∀x∈l,gT x=0):=by
 by_cases h:s.size=0∨l.length=0
 ·rw[GO h];omega
 ·by_cases a:32<s.size∨8<l.length
  ·rw[GP h a];omega
  ·by_cases c:f<0∨1073741824-(l.length:Int)<f
   ·rw[GR h a c];omega
   ·rw[GS h a c,GN];constructor
    ·intro b;exact⟨by omega,by omega,by omega,by omega,by omega,by omega,b⟩
    ·rintro ⟨_,_,_,_,_,_,b⟩;exact b
def vG: List jg->Tw
 | []=>ByteArray.empty
 | x::l=>lf x++vG l
theorem GT: ∀(l:List jg) (x:jg),vG (l++[x])=vG l++lf x
 | [],x=>by simp[vG]
 | y::l,x=>by rw[List.cons_append,vG,vG,GT l x,ByteArray.append_assoc]
theorem G3{l:List jg}(h:∀x∈l,gT x=0):(vG l).size<=l.length*228:=by
 induction l with
 | nil=>simp[vG]
 | cons x l b =>
   have c:=b (fun y a=>h y (qE _ a));have d:=pO.1 (h x (qD ..));rw[vG,qy,lf,V0,qk];omega
def mh(s:Tw)(f n:Nat):Tw:=bs (be 2 s.size)++s++bs (be 8 f)++bs (be 1 n)
theorem G4(s:Tw)(f n:Nat):(mh s f n).size=s.size+11:=by
 unfold mh;simp only[ByteArray.size_append,ji,jq];omega
def uM(s:Tw)(f:Nat)(l:List jg):Tw:=mh s f l.length++vG l
def JY(s:Tw)(f:Int)(l:List jg):Tw:=if vT s f l=0 then uM s f.toNat l else ByteArray.empty
theorem Tz{s:Tw}{f:Int}{l:List jg}(h:vT s f l=0):1<=(uM s f.toNat l).size/\(uM s f.toNat l).size<=2000:=by
 obtain⟨b,c,d,g,i,j,a⟩:=lh.1 h;have:=G3 a;unfold uM;rw[qy,G4];omega
def ym: Nat->Tw->Option (List jg × Tw)
 | 0,s=>some ([],s)
 | n+1,s=>if yN s=true then(ym n (erR s)).map (fun p=>(⟨erT s,erD s,erW s⟩::p.1,p.2)) else none
structure oM(x:jg):Prop where
 c:gT x=0
 b:x.b<18446744073709551616
theorem G5: ∀ {n:Nat} {s:Tw} {l:List jg} {r:Tw},ym n s=some (l,r)->vG l++r=s/\l.length=n/\∀x∈l,oM x
 | 0,s,l,r,h=>by
   simp only[ym,Option.some.injEq,Prod.mk.injEq]at h;obtain⟨rfl,rfl⟩:=h;exact⟨by simp[vG],rfl,fun x a=>by cases a⟩
 | n+1,s,l,r,h=>by
   unfold ym at h;by_cases b:yN s=true
   ·rw[qV b]at h;cases c:ym n (erR s) with
    | none=>rw[c]at h;cases h
    | some p =>
      obtain⟨k,m⟩:=p;rw[c]at h;simp only[Option.map_some,Option.some.injEq,Prod.mk.injEq]at h;obtain⟨rfl,rfl⟩:=h;obtain⟨d,f,g⟩:=G5 c;obtain⟨i,j⟩:=M7 b;refine⟨?_,by rw[qk,f],fun x a=>?_⟩
      ·rw[vG,ByteArray.append_assoc,d];exact j
      ·rcases qL.1 a with rfl|a
       ·exact⟨i,MS s⟩
       ·exact g x a
   ·rw[qZ b]at h;cases h
theorem G6: ∀ {l:List jg} {r:Tw},(∀x∈l,oM x)->ym l.length (vG l++r)=some (l,r)
 | [],r,_=>by simp[ym,vG]
 | x::l,r,h=>by
   have hx:=h x (qD ..);obtain⟨f,g,i,j,k⟩:=M6 x.t x.d x.b (vG l++r) hx.c hx.b;rw[qk,ym,vG,ByteArray.append_assoc];unfold lf;rw[qV f,g,i,j,k,G6 (fun y a=>h y (qE _ a))];rfl
theorem Tj{n:Nat}{s:Tw}(h:yN s=true):ym (n+1) s=(ym n (erR s)).map (fun p=>(⟨erT s,erD s,erW s⟩::p.1,p.2)):=by rw[ym,qV h]
theorem Tk{n:Nat}{s:Tw}(h:yN s=false):ym (n+1) s=none:=by rw[ym,qZ (by rw[h];decide)]
def bgM(s:Tw):Nat:=if h:8<(rdB s).size then((rdB s)[8]).toNat else 0
theorem G7(s:Tw):bgM s<256:=by
 unfold bgM;split
 ·exact UInt8.toNat_lt _
 ·omega
def JU(s:Tw):Tw:=(rdB s).extract 9 (rdB s).size
def cF(s:Tw):Bool:=v8 s&&decide (9<=(rdB s).size)&&decide (jR (rdB s)<=1073741824)
def dO(s:Tw):Option (List jg × Tw):=ym (bgM s) (JU s)
def kr(s:Tw):Bool:=cF s&&match dO s with
 | none=>false
 | some (l,r)=>decide (r.size=0)&&decide (vT (rdA s) (jR (rdB s):Nat) l=0)
def bgS(s:Tw):Tw:=if kr s=true then rdA s else ByteArray.empty
def bgF(s:Tw):Int:=if kr s=true then(jR (rdB s):Nat) else 0
def bgL(s:Tw):List jg:=if kr s=true then((dO s).map (·.1)).getD [] else []
def bgE(s:Tw):Int:=if kr s=true then 0 else 10
theorem Tv{s:Tw}(h:kr s=false):bgS s=ByteArray.empty/\bgF s=0/\bgL s=[]/\bgE s=10:=by simp[bgS,bgF,bgL,bgE,h]
theorem oN{s:Tw}(h:kr s=true):cF s=true/\bgS s=rdA s/\bgF s=(jR (rdB s):Nat)/\bgE s=0/\dO s=some (bgL s,ByteArray.empty)/\vT (bgS s) (bgF s) (bgL s)=0:=by
 have i:bgS s=rdA s/\bgF s=(jR (rdB s):Nat)/\bgE s=0/\bgL s=((dO s).map (·.1)).getD []:=by simp[bgS,bgF,bgE,bgL,h]
 obtain⟨a,b,d,f⟩:=i;unfold kr at h;rw[Bool.and_eq_true]at h;obtain⟨g,h⟩:=h;refine⟨g,a,b,d, ?_⟩;rw[a,b,f];cases c:dO s with
 | none=>rw[c]at h;cases h
 | some p =>
   obtain⟨l,r⟩:=p;rw[c]at h;simp only[Bool.and_eq_true,decide_eq_true_eq]at h;obtain⟨k,j⟩:=h;have:r=ByteArray.empty:=ByteArray.ext (Array.eq_empty_of_size_eq_zero k);subst this;exact⟨rfl,j⟩
theorem G8{s:Tw}{l:List jg}(h:cF s=true)(b:dO s=some (l,ByteArray.empty))(a:vT (rdA s) (jR (rdB s):Nat) l=0):kr s=true:=by
 unfold kr;rw[h,b];simp[a]
theorem Ty{s:Tw}{l:List jg}{r:Tw}(b:dO s=some (l,r))(a:¬r.size=0∨¬vT (rdA s) (jR (rdB s):Nat) l=0):kr s=false:=by
 unfold kr;rw[b];rcases a with h|h<;>simp[h]
theorem G9{s:Tw}(h:cF s=false):kr s=false:=by
 unfold kr;rw[h];rfl
theorem Tu(s:Tw)(f:Nat)(l:List jg)(r:Tw)(u:s.size<=65535)(A:f<=1073741824)(n:l.length<256)(v:∀x∈l,oM x):
  cF (uM s f l++r)=true/\rdA (uM s f l++r)=s/\jR (rdB (uM s f l++r))=f/\dO (uM s f l++r)=some (l,r):=by
 have e:uM s f l++r=bs (be 2 s.size)++s++(bs (be 8 f)++(bs (be 1 l.length)++(vG l++r))):=by
  unfold uM mh;simp only[ByteArray.append_assoc]
 obtain⟨j,a,k⟩:=XT (t:=s) (r:=bs (be 8 f)++(bs (be 1 l.length)++(vG l++r))) u;obtain⟨c,z⟩:=V6 (b:=f) (by omega) (bs (be 1 l.length)++(vG l++r));have i:(bs (be 8 f)++(bs (be 1 l.length)++(vG l++r))).size=9+(vG l++r).size:=by simp only[ByteArray.size_append,ji,jq];omega
 have d:(bs (be 8 f)++(bs (be 1 l.length)++(vG l++r))).data.toList=be 8 f++(UInt8.ofNat l.length::(vG l++r).data.toList):=by
  simp only[ByteArray.data_append,Array.toList_append,bs,be];simp
 rw[e];refine⟨?_,j,by rw[a,c], ?_⟩
 ·unfold cF;rw[a,k,c,i];simp only[Bool.true_and,Bool.and_eq_true,decide_eq_true_eq];omega
 ·unfold dO
  have p:bgM (bs (be 2 s.size)++s++(bs (be 8 f)++(bs (be 1 l.length)++(vG l++r))))=l.length:=by
   unfold bgM;rw[a,dif_pos (by omega)]
   have q:∀(x:Tw) (h:8<x.size) (y:UInt8),x.data.toList[8]? = some y->(x[8]'h)=y:=fun x h y g=>by
    have o:8<x.data.toList.length:=(by rw[fT];exact h);rw[qC o]at g;exact qg g
   rw[q _ _ (UInt8.ofNat l.length) (by rw[d,List.getElem?_append_right (by rw[jq];omega),jq];rfl),UInt8.toNat_ofNat'];exact Nat.mod_eq_of_lt n
  have m:JU (bs (be 2 s.size)++s++(bs (be 8 f)++(bs (be 1 l.length)++(vG l++r))))=vG l++r:=by
   unfold JU;rw[a];apply ByteArray.ext;apply Array.toList_inj.1;rw[ByteArray.data_extract,Array.toList_extract,d,i,List.extract,qd (by rw[List.length_drop,qI,jq,qk,fT];omega)];rw[show(9:Nat)=(be 8 f).length+1 by rw[jq],List.drop_append,List.drop_of_length_le (by omega),Nat.add_sub_cancel_left];rfl
  rw[p,m];exact G6 v
theorem Gq{s:Tw}{f:Int}{l:List jg}(h:vT s f l=0)(c:∀x∈l,x.b<18446744073709551616):∀x∈l,oM x:=fun x a=>⟨(lh.1 h).2.2.2.2.2.2 x a,c x a⟩
theorem Tg{s:Tw}{f:Int}{l:List jg}(h:vT s f l=0)(m:∀x∈l,x.b<18446744073709551616):
  kr (uM s f.toNat l)=true/\bgS (uM s f.toNat l)=s/\bgF (uM s f.toNat l)=f/\bgL (uM s f.toNat l)=l:=by
 obtain⟨p,q,r,t,u,v,y⟩:=lh.1 h;obtain⟨k,a,c,d⟩:=Tu s f.toNat l ByteArray.empty (by omega) (by omega) (by omega) (Gq h m);rw[ByteArray.append_empty]at k a c d;have i:((f.toNat:Nat):Int)=f:=by omega
 have j:=G8 k d (by rw[a,c,i];exact h);obtain⟨_,n,o,_,g,_⟩:=oN j;refine⟨j,by rw[n,a],by rw[o,c,i], ?_⟩;rw[d]at g;simp only[Option.some.injEq,Prod.mk.injEq]at g;exact g.1.symm
end
section
open Go.ChangeShapes Go.WideShapes Go.ChangeAt Go.RowKit Go.Deep
structure Stp where
 k:Nat
 s:Nat
 m:Nat
def JG(x:Stp):List Value:=[.int .u8 (x.k:Nat),.int .u8 (x.s:Nat),.int .u8 (x.m:Nat)]
structure QJ(x:Stp):Prop where
 k:x.k<256
 s:x.s<256
 m:x.m<256
theorem Tb: ∃a,prog.underlying 46=some (.struct a)/\a.size=3 /\
  (a[0]?.map (fun f=>(f.type,f.offset,prog.cellsOf f.type))=some (5,0,1)/\a[1]?.map (fun f=>(f.type,f.offset,prog.cellsOf f.type))=some (5,1,1)/\a[2]?.map (fun f=>(f.type,f.offset,prog.cellsOf f.type))=some (5,2,1)) :=
 ⟨_,Tryz.underlying46,by kernel_rfl,by kernel_rfl,by kernel_rfl,by kernel_rfl⟩
theorem Gx: prog.cellsOf 46=3:=by kernel_rfl
theorem Tc{H:Type}{enc:TypeId × Value->H}{W:World}{u:Nat}{cs:List Value}{y:DataW H × List MemPlace}
  (C:DataW.trod enc prog W 0 (fun _=>true) true u 46 cs=some y):∃x,cs=JG x/\QJ x:=by
 obtain⟨d,I,V,N,O,Q⟩:=Tb;obtain⟨p,n,_,rfl,g,J,D⟩:=DataW.trod_struct I C;rw[Gx]at g
 match cs,g with
 | [c0,c1,c2],_ =>
   have step:∀(i:Nat) (t:TypeId) (o k:Nat),d[i]?.map (fun f=>(f.type,f.offset,prog.cellsOf f.type))=some (t,o,k)->∃U,DataW.trod enc prog W 0 (fun _=>true) true n t ((([c0,c1,c2]:List Value).drop o).take k)=some U:=by
    intro i t o k a;cases b:d[i]? with
    | none=>rw[b]at a;cases a
    | some f =>
      rw[b]at a;simp only[Option.map_some,Option.some.injEq,Prod.mk.injEq]at a;obtain⟨rfl,rfl,rfl⟩:=a;have c:=D i f b;have F:i<p.length:=(by rw[J];exact(qm.1 b).1);exact⟨p[i],by rw[c,qC F]⟩
   obtain⟨Z,v⟩:=step 0 _ _ _ N;obtain⟨y1,c⟩:=step 1 _ _ _ O;obtain⟨y2,A⟩:=step 2 _ _ _ Q;obtain⟨k,q,_,T⟩:=DataW.trod_int Tryz.underlying5 v;obtain⟨X,r,_,R⟩:=DataW.trod_int Tryz.underlying5 c;obtain⟨Y,s,_,S⟩:=DataW.trod_int Tryz.underlying5 A;obtain⟨j,rfl,G⟩:=Qs T;obtain⟨l,rfl,z⟩:=Qs R;obtain⟨m,rfl,B⟩:=Qs S;refine⟨⟨j,l,m⟩, ?_,G,z,B⟩;have K:c0 = .int .u8 (j:Nat):=(by simpa using q);have L:c1 = .int .u8 (l:Nat):=(by simpa using r);have M:c2 = .int .u8 (m:Nat):=(by simpa using s);rw[K,L,M];rfl
def QK(w:World)(v:Value)(l:List Stp):Prop :=
 (l=[]/\∃a c,v = .slice a 0 c)∨∃b off d,v = .slice (some ⟨b,off,none⟩) l.length d/\l.length<=d/\d<=maxLen/\b<w.heap.size /\
  ∀i x,l[i]? = some x->∀j u,(JG x)[j]? = some u->w.cell? ⟨b,off+(i*3+j),none⟩=some u
theorem Gz{p:Nat->Stp->Prop}:∀n,(∀i,i<n->∃x,p i x)->∃l:List Stp,l.length=n/\∀i x,l[i]? = some x->p i x
 | 0,_=>⟨[],rfl,fun i x h=>by simp at h⟩
 | n+1,h=>by
   obtain⟨l,b,d⟩:=Gz n (fun i g=>h i (by omega));obtain⟨x,f⟩:=h n (by omega);refine⟨l++[x],by rw[qI,b];rfl,fun i y a=>?_⟩;rcases Nat.lt_or_ge i n with c|c
   ·rw[List.getElem?_append_left (by omega)]at a;exact d i y a
   ·rw[List.getElem?_append_right (by omega),b]at a
    have:i=n:=by
     have:=(qP.1 a).1;simp at this;omega
    subst this;rw[Nat.sub_self]at a;obtain rfl:x=y:=(by simpa using a);exact f
theorem qYu{H:Type}{enc:TypeId × Value->H}{W:World}{v:Value}{d:DataW H}{p:List MemPlace}(N:∃a len cap,v = .slice a len cap)
  (A:DataW.Trod enc prog W 0 (fun _=>true) true 22 v d p) (q:∀x∈p,x.block<W.heap.size):∃l,QK W v l/\∀x∈l,QJ x:=by
 obtain⟨R,len,cap,rfl⟩:=N;obtain⟨U,B⟩:=A;rcases open_slice Tryz.underlying22 B with⟨f,c⟩|⟨a,Y,S,m,n,D,Q,f,_,X,I,J,c,g⟩
 ·simp[Value.cells]at f;obtain⟨rfl,rfl,rfl⟩:=f;exact⟨[],qX ⟨rfl,_,_,rfl⟩,fun x c=>by cases c⟩
 ·simp[Value.cells]at f;obtain⟨rfl,rfl,rfl⟩:=f;simp only[Prod.mk.injEq]at c;obtain⟨rfl,rfl⟩:=c;simp only[if_true]at J;rw[Gx]at g q;by_cases F:len=0
  ·subst F;exact⟨[],qX ⟨rfl,_,_,rfl⟩,fun x c=>by cases c⟩
  ·have each:∀i,i<len->∃x,QJ x/\∀j u,(JG x)[j]? = some u->W.cell? (a.add (i*3+j))=some u:=by
    intro i V;obtain⟨T,y,M⟩:=g i (by omega);obtain⟨_,z,s⟩:=World.cells?_some y;obtain⟨x,rfl,K⟩:=Tc M;refine⟨x,K,fun j u k=>?_⟩;have C:j<3:=(by have:=(qP.1 k).1;rw[z]at this;exact this);rw[<-Go.Deep.add_add,s j C];exact k
   obtain⟨b,off,O⟩:=a
   have L:O=none:=by
    obtain⟨x,_,c⟩:=each 0 (by omega);simpa[Addr.add] using World.cell?_spot (c 0 _ rfl)
   subst L;obtain⟨l,G,o⟩:=Gz len each;have t:b<W.heap.size:=q (.cell b off) (qG _ (MemPlace.mem_row.2 ⟨0,by omega,by simp⟩));refine⟨l,qY ⟨b,off,cap,by rw[G],by omega,I,t,fun i x c j u k=>?_⟩,fun x c=>?_⟩
   ·have h:=(o i x c).2 j u k;have r:(⟨b,off,none⟩:Addr).add (i*3+j)=⟨b,off+(i*3+j),none⟩:=(by unfold Addr.add;split<;>simp_all);rw[r]at h;exact h
   ·obtain⟨i,g⟩:=List.getElem?_of_mem c;exact(o i x g).1
theorem QK.form{w:World}{v:Value}{l:List Stp}(h:QK w v l):∃A off cap,v = .slice A l.length cap/\l.length<=maxLen /\
  ∀i x,l[i]? = some x->∃b,A=some ⟨b,off,none⟩/\b<w.heap.size/\w.cell? ⟨b,off+i*3,none⟩=some (.int .u8 (x.k:Nat))/\w.cell? ⟨b,off+i*3+1,none⟩=some (.int .u8 (x.s:Nat))/\w.cell? ⟨b,off+i*3+2,none⟩=some (.int .u8 (x.m:Nat)):=by
 rcases h with⟨rfl,a,c,rfl⟩|⟨b,off,cap,rfl,j,n,g,d⟩
 ·exact⟨a,0,c,rfl,qF _,fun i x h=>by simp at h⟩
 ·exact⟨some ⟨b,off,none⟩,off,cap,rfl,by omega,fun i x f=>⟨b,rfl,g,d i x f 0 _ rfl,d i x f 1 _ rfl,d i x f 2 _ rfl⟩⟩
theorem qYg{H:Type}{enc:TypeId × Value->H}{W a:World}{v:Value}{d:DataW H}{p:List MemPlace}
  (f:DataW.Trod enc prog W 0 (fun _=>true) true 22 v d p) (g:∀x∈p,x.block<W.heap.size) (c:Below W.heap.size W a):
  DataW.Trod enc prog a 0 (fun b=>decide (b<W.heap.size)) true 22 v d p :=
 Below.trod OB (by kernel_rfl) (of_decide_eq_true (by kernel_rfl)) f c g
end
section
open Go.ChangeShapes Go.WideShapes Go.ChangeAt Go.RowKit
section
variable {H:Type}{enc:TypeId × Value -> H}{P:Program}{w:World}{base:Nat}{spare:Nat -> Bool}{held:Bool}
theorem Td{a:Nat}{t:TypeId}{cs:List Value}{x:DataW H × List MemPlace}(b:P.underlying t=some (.float .f64))(h:DataW.trod enc P w base spare held a t cs=some x):∃n,cs=[.float .f64 n]/\x=(.lit (.float .f64 n),[])/\(Lit.float .f64 n).wf=true:=by
 cases a with
 | zero=>simp[DataW.trod]at h
 | succ n =>
   unfold DataW.trod at h;rw[b]at h;split at h<;>simp_all
theorem Tf{r:Reach}{a:Nat}{t:TypeId}{v:Value}(b:P.underlying t=some (.float .f64))(h:Value.okWide P w r a t v):∃n,v = .float .f64 n:=by
 simp only[Value.okWide,b,Cell.okWide]at h;cases v<;>simp_all [Cell.ok]
theorem qYb{r:Reach}{f:Nat}{t:TypeId}{v:Value}{d:DataW H}{c:List MemPlace}(b:P.underlying t=some (.float .f64))(j:Value.okWide P w r f t v)(g:DataW.Trod enc P w base spare held t v d c):
  ∃n:Nat,v = .float .f64 n/\d = .lit (.float .f64 n)/\c=[]/\n<18446744073709551616:=by
 obtain⟨n,rfl⟩:=Tf b j;obtain⟨k,i⟩:=g;obtain⟨l,h,a,hw⟩:=Td b i;simp[Value.cells]at h;subst h;simp only[Prod.mk.injEq]at a;refine⟨n,rfl,a.1,a.2, ?_⟩;have:=of_decide_eq_true (show decide (n<2 ^ 64)=true from hw);exact this
theorem qYc{t:TypeId}{n:Nat}(a:P.underlying t=some (.float .f64))(hw:n<18446744073709551616):DataW.Trod enc P w base spare held t (.float .f64 n) (.lit (.float .f64 n)) []:=by
 have h:(Lit.float .f64 n).wf=true:=qA (show n<2 ^ 64 from hw);exact⟨1,by simp[DataW.trod,Value.cells,a,h]⟩
end
end
end Go.Proofs.YtokbfellcadkpaaGreat

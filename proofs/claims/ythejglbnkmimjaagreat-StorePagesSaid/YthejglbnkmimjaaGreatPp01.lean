import Derived.Test.YthejglbnkmimjaaGreatPp00
import Derived.Test.YthejglbnkmimjaaGreatProg
import Derived.WalkLawsBesides
import Derived.WalkSpells
import Derived.Deep.OwnRows
import Derived.BigQuiet
import Derived.OpenShut
import Derived.Deep.Fields
import Derived.ProofKit
import Derived.Lib.IndexBytes
import Derived.Shelf.Abstract
import Derived.RangeFuncFrom
set_option linter.unusedVariables false
set_option maxRecDepth 100000
set_option maxHeartbeats 9000000
namespace Go.Proofs.YthejglbnkmimjaaGreat
open Proofs.Tryz
section
open Go.RowKit
theorem my{k:IntKind}{a b:Int}(h:a=b):Ending.returned (.int k a)=.returned (.int k b):=by rw[h]
theorem F5{k:IntKind}{a b:Int}(h:a=b):Value.int k a=.int k b:=by rw[h]
theorem pO{a b:Bool}(h:a=b):Ending.returned (.bool a)=.returned (.bool b):=by rw[h]
theorem uu{B:Nat}{a w:World}(h:Below B a w)(n:Nat):Below B a (w.drewN n):=⟨h.os,h.tape,h.output,h.size,h.block⟩
theorem bj{a b c:World}(h:Below a.1.size a b)(k:Below b.1.size b c):Below a.1.size a c:=h.trans (k.mono h.size)
theorem F7{a:Int}(h:(Lit.int .u64 a).wf=true):∃n:Nat,a=n/\n<18446744073709551616:=by
 have:=bounds_u64 h;exact⟨a.toNat,by omega,by omega⟩
theorem F8{a:Int}(h:(Lit.int .u16 a).wf=true):∃n:Nat,a=n/\n<65536:=by
 have:=bounds_u16 h;exact⟨a.toNat,by omega,by omega⟩
theorem Kq{a:Int}(h:(Lit.int .u8 a).wf=true):∃n:Nat,a=n/\n<256:=by
 have:=bounds_u8 h;exact⟨a.toNat,by omega,by omega⟩
end
section
open Go.RowKit
structure jP(F:List Nat)(w w':World):Prop where
 os:w'.os=w.os
 tape:w'.tape=w.tape
 output:w'.output=w.output
 size:w.1.size<=w'.1.size
 block:∀b,b<w.1.size->b ∉ F->w'.heap[b]? = w.heap[b]?
section
variable {F G:List Nat}{w a b c w':World}
theorem jP.refl(F:List Nat)(w:World):jP F w w:=⟨rfl,rfl,rfl,qK _,fun _ _ _=>rfl⟩
theorem jP.trans(h:jP F a b)(k:jP G b c)(l:∀x∈G,x∈F∨a.1.size<=x):jP F a c :=
 ⟨k.os.trans h.os,k.tape.trans h.tape,k.output.trans h.output,qR h.size k.size,fun x j i =>
  (k.block x (qS j h.size) (fun m=>by rcases l x m with d|d;exact i d;omega)).trans (h.block x j i)⟩
theorem jP.more(h:jP F a b)(i:∀x∈F,x∈G∨a.1.size<=x):jP G a b :=
 ⟨h.os,h.tape,h.output,h.size,fun x l k=>h.block x l (fun j=>by rcases i x j with d|d;exact k d;omega)⟩
theorem jP.drew(h:jP F a w):jP F a w.drew:=⟨h.os,h.tape,h.output,h.size,h.block⟩
theorem jP.drewN(h:jP F a w)(n:Nat):jP F a (w.drewN n):=⟨h.os,h.tape,h.output,h.size,h.block⟩
theorem jP.alloc(h:jP F a w)(o:Obj):jP F a (w.alloc o) :=
 h.trans (G:=[]) ⟨rfl,rfl,rfl,by simp,fun k d _=>Below.heap_alloc _ _ _ d⟩ (fun _ h=>by cases h)
theorem jP.setCell(h:jP F a w){p:Addr}(i:p.block∈F∨a.1.size<=p.block)(u:Value):jP F a (w.setCell p u) :=
 h.trans (G:=[p.block]) ⟨rfl,rfl,rfl,by simp[World.setCell],fun k _ d=>Below.heap_setCell _ _ _ _ (fun e=>d (by simp[e]))⟩ (fun x j=>by
  obtain rfl:x=p.block:=by simpa using j
  exact i)
theorem jP.grown(h:jP F a w){row:Option Nat}(d:w.grownBy w' row)(l:∀k,row=some k->k∈F∨a.1.size<=k):jP F a w' :=
 h.trans (G:=row.toList) ⟨d.os,d.tape,d.output,d.size,fun k i j=>d.block k i (fun e=>j (by rw[<-e];simp))⟩ (fun x m=>l x (by simpa using m))
theorem jP.xA(h:Below w.1.size w w'):jP [] w w':=⟨h.os,h.tape,h.output,h.size,fun k d _=>h.block k d⟩
theorem jP.below(h:jP F w w'){B:Nat}(i:B<=w.1.size)(hF:∀x∈F,B<=x):Below B w w' :=
 ⟨h.os,h.tape,h.output,h.size,fun k j=>h.block k (by omega) (fun d=>by have:=hF k d;omega)⟩
theorem jP.cell(h:jP F w w'){p:Addr}(i:p.block<w.1.size)(d:p.block ∉ F):w'.cell? p=w.cell? p:=World.cell?_of_block (w:=w) (h.block p.block i d)
end
def jN(w:World)(g:Nat)(t:TypeId)(cs:Array Value):Prop:=w.heap[g]? = some (.cells cs t (0,0))
section
variable {F:List Nat}{w w':World}{g:Nat}{t:TypeId}{cs:Array Value}
theorem jN.lt(h:jN w g t cs):g<w.1.size:=by
 rcases qd g w.1.size with i|d
 ·exact i
 ·unfold jN at h;rw[Array.getElem?_eq_none d]at h;cases h
theorem jN.cell(h:jN w g t cs)(i:Nat):w.cell? ⟨g,i,none⟩=cs[i]? := cell_of_row w g i cs t (0,0) h
theorem jN.frozen(h:jN w g t cs)(i:Nat):w.frozen? ⟨g,i,none⟩=false:=frozen_of_row w g i cs t h
theorem jN.new(w:World)(t:TypeId)(cs:Array Value):jN (w.alloc (.cells cs t)) w.1.size t cs:=heap_alloc_new w _
theorem jN.drew(h:jN w g t cs):jN w.drew g t cs:=h
theorem jN.drewN(h:jN w g t cs)(n:Nat):jN (w.drewN n) g t cs:=h
theorem jN.alloc(h:jN w g t cs)(o:Obj):jN (w.alloc o) g t cs:=(Below.heap_alloc w o g h.lt).trans h
theorem jN.put(h:jN w g t cs)(i:Nat)(u:Value):jN (w.setCell ⟨g,i,none⟩ u) g t (cs.setIfInBounds i u):=heap_setCell_same w g i cs t u h
theorem jN.xD(h:jN w g t cs){p:Addr}(d:g≠p.block)(u:Value):jN (w.setCell p u) g t cs:=(heap_setCell_other w p g u d).trans h
theorem jN.xC(h:jN w g t cs)(i:jP F w w')(d:g ∉ F):jN w' g t cs:=(i.block g h.lt d).trans h
theorem jN.xe{i:Nat}{j:TypeId}{k:Array Value}(h:jN w g t cs)(d:jN w i j k)(l:t≠j):g≠i:=by
 rintro rfl;unfold jN at h d;rw[h]at d;injection d with d;injection d with _ ht;exact l ht
end
section
variable {F:List Nat}{w w':World}{base:Nat}{e:TypeId}{size n:Nat}{v:Value}{xs:List Value}
theorem cQ(h:w.ownsRow base e size v n xs)(s:jP F w w')(hF:∀b,v.ownBlock=some b->b ∉ F):w'.ownsRow base e size v n xs:=by
 refine⟨h.1, ?_⟩;rcases h.2 with j|⟨g,d,i,rfl,p,q,k,l,m,o⟩
 ·exact .inl j
 ·have r:g<w.1.size:=(h.lt g rfl).2;exact .inr ⟨g,d,i,rfl,p,(s.block g r (hF g rfl)).trans q,k,l,m,o⟩
theorem vz(h:w.ownsRow base e size v n xs){p:Addr}(j:v.ownBlock≠some p.block)(u:Value):(w.setCell p u).ownsRow base e size v n xs :=
 cQ h (jP.setCell (F:=[p.block]) (jP.refl _ w) (qX (by simp)) u) (fun b d i=>j (by rw[d];simpa using i))
theorem vO{g:Nat}{t:TypeId}{cs:Array Value}(h:w.ownsRow base e size v n xs)(k:jN w g t cs)(m:e≠t):v.ownBlock≠some g:=by
 rcases h.2 with⟨rfl,_⟩|⟨d,o,i,rfl,_,l,_⟩
 ·simp[Value.ownBlock]
 ·intro j;have:d=g:=by simpa[Value.ownBlock] using j
  subst this;exact jN.xe (show jN w d e i from l) k m rfl
theorem dF{base':Nat}{d:TypeId}{r q:Nat}{k:Value}{s:List Value}(h:w.ownsRow base e size v n xs)(m:w.ownsRow base' d r k q s)(p:e≠d):∀b,k.ownBlock=some b->v.ownBlock≠some b:=by
 intro b j;rcases m.2 with⟨rfl,_⟩|⟨i,u,l,rfl,_,o,_⟩
 ·simp[Value.ownBlock]at j
 ·obtain rfl:i=b:=by simpa[Value.ownBlock] using j
  exact vO h (show jN w i d l from o) p
theorem vl(h:w.ownsRow base e size v n xs):∃A d,v=.slice A n d/\n<=d/\d<=maxLen/\(0<n->∃b,A=some ⟨b,0,none⟩/\base<=b/\b<w.1.size)/\(A=none->n=0/\d=0):=by
 rcases h.2 with⟨rfl,rfl⟩|⟨g,d,l,rfl,k,p,i,j,m,o⟩
 ·exact⟨none,0,rfl,qK _,qI _,fun h=>absurd h (by omega),fun _=>⟨rfl,rfl⟩⟩
 ·exact⟨_,d,rfl,i,j,fun _=>⟨g,rfl,k,(h.lt g rfl).2⟩,fun h=>by cases h⟩
end
def fX(w:World)(size:Nat)(v:Value)(m:Nat)(d:List Value):Prop :=
 d.length=m*size/\((∃c,v=.slice none 0 c/\m=0)∨∃a c,v=.slice (some a) m c/\∀j u,d[j]? = some u->w.cell? (a.add j)=some u)
section
variable {P:Program}
theorem fg(w:World)(base:Nat)(t e:TypeId)(i:TypeInfo)(z:Value)(size bytes:Nat)(p:TypeId)(o:P.underlying t=some (.slice e))(hi:P.info? e=some i)(Q:i.zero=some z)
  (N:i.size=size) (I:i.bytes=bytes) (R:z.cells.size=size) (O:0<size)
  (v:Value) (n:Nat) (xs:List Value) (k:w.ownsRow base e size v n xs) (q:Value) (m:Nat) (j:List Value) (l:fX w size q m j) (B:∀u∈j,u.oneCell'=true)
  (C:n+m<=maxLen) (J:(n+m)*bytes<=140737488355328) (D:base<=w.1.size):
  ∃d w',(Builtin.append_ #[t,t] p #[v,q]).run P w=.ok d w'/\w'.ownsRow base e size d (n+m) (xs++j)/\w.grownBy w' v.ownBlock/\(d.ownBlock=v.ownBlock∨d.ownBlock=some w.1.size):=by
 rcases l.2 with⟨c,rfl,rfl⟩|⟨a,c,rfl,K⟩
 ·have L:j=[]:=List.eq_nil_of_length_eq_zero (by simpa using l.1);subst L;refine⟨v,w, ?_,by simpa using k,⟨rfl,rfl,rfl,qK _,fun _ _ _=>rfl⟩,qX rfl⟩;rcases k.2 with⟨rfl,rfl⟩|⟨g,S,T,rfl,_,_,M,_⟩
  ·simp[Builtin.append_,run_underlying o,sizeOf,typeInfo,hi,Builtin.lenOf,Builtin.firstCells]
  ·simp[Builtin.append_,run_underlying o,sizeOf,typeInfo,hi,Builtin.lenOf,Builtin.firstCells,M,storeCells]
 ·obtain⟨d,w',r,s,y,_,A⟩:=run_append_own_at (P:=P) w base t p e i z size bytes o hi Q N I R O v n xs k a m c j l.1 K B C J D;exact⟨d,w',r,s,y,A⟩
theorem Kx{d:Array Oper}{o:Oper}{a:Act}{w w':World}{K:Act->World->Prop}{Q:Exit->Act->World->Prop}{E:Prop}{j k i:Value}(l:o.guard=none)(s x:Operand)(t:TypeId)
  (m:o.op=.call { callee:=.builtin .append,args:=#[s,x],argTypes:=#[t,t] }) (q:a.eval s=j) (r:a.eval x=k)
  (p:(Builtin.append_ #[t,t] o.type #[j,k]).run P w=.ok i w') (h:K (a.put o.dst i) w'):if Region.wanted o (yielded d a.tmps)=true then Oper.wp P o a w K Q else E:=by
 have hw:Region.wanted o (yielded d a.tmps)=true:=by simp[Region.wanted,l]
 rw[qV hw];unfold Oper.wp execOp;simp only[m,resolve,invoke,builtin,Sem.run_bind,Sem.run_pure,Result.andThen_ok,List.map_toArray,List.map_cons,List.map_nil,q,r,p];exact h
end
theorem yC{P:Program}{w w':World}{d:Array Oper}{rest:List Oper}{o:Oper}{a:Act}{Q:Exit->Act->World->Prop}{k l j:Value}{t i:TypeId}(p:o.guard=none)(s x:Operand)
  (q:o.op=.call { callee:=.builtin .append,args:=#[s,x],argTypes:=#[t,i] }) (u:a.eval s=k) (y:a.eval x=l) (r:(Builtin.append_ #[t,i] o.type #[k,l]).run P w=.ok j w') (h:wpList P d Q rest (a.put o.dst j) w'):wpList P d Q (o::rest) a w:=by
 refine wpList_plain p fun z m=>?_
 unfold Oper.wp execOp;simp only[q,resolve,invoke,builtin,Sem.run_bind,Sem.run_pure,Result.andThen_ok,List.map_toArray,List.map_cons,List.map_nil,u,y,r];exact m _ _ h
end
section
open Go.RowKit
def RowB(w:World)(b:Nat)(n:Nat)(f:Nat->Value):Prop :=
 ∃(c:Array Value) (t:TypeId) (d:Nat × Nat),w.heap[b]? = some (.cells c t d)/\n<=c.size/\(d=(0,0)∨n<=d.1)/\∀i,i<n->c[i]? = some (f i)
namespace RowB
variable {w:World}{b n:Nat}{f g:Nat -> Value}
theorem cell(h:RowB w b n f){i:Nat}(hi:i<n):w.cell? ⟨b,i,none⟩=some (f i):=by
 obtain⟨c,t,k,d,_,_,j⟩:=h;simp[World.cell?,d,j i hi]
theorem frozen(h:RowB w b n f){i:Nat}(hi:i<n):w.frozen? ⟨b,i,none⟩=false:=by
 obtain⟨c,t,⟨k,m⟩,j,_,d,_⟩:=h;rcases d with d|d
 ·cases d;simp[World.frozen?,j]
 ·have l:n<=k:=d;simp[World.frozen?,j];omega
theorem lt(h:RowB w b n f):b<w.1.size:=by
 obtain⟨c,t,j,d,_⟩:=h;obtain⟨i,_⟩:=qn.1 d;exact i
theorem congr(h:RowB w b n f)(e:∀i,i<n->f i=g i):RowB w b n g:=by
 obtain⟨c,t,j,k,o,m,l⟩:=h;exact⟨c,t,j,k,o,m,fun i d=>by rw[l i d,e i d]⟩
theorem of_block{w':World}(h:RowB w b n f)(e:w'.heap[b]? = w.heap[b]?):RowB w' b n f:=by
 obtain⟨c,t,d,i,l,k,j⟩:=h;exact⟨c,t,d,e.trans i,l,k,j⟩
theorem below{w':World}(h:RowB w b n f)(d:Below w.1.size w w'):RowB w' b n f:=h.of_block (d.block _ h.lt)
theorem set(h:RowB w b n f)(i:Nat)(v:Value):RowB (w.setCell ⟨b,i,none⟩ v) b n (fun j=>if j=i then v else f j):=by
 obtain⟨c,t,d,k,p,m,l⟩:=h;refine⟨c.setIfInBounds i v,t,d, ?_,by simpa using p,m,fun j o=>?_⟩
 ·simp[World.setCell,Array.getElem?_modify,k]
 ·rw[Array.getElem?_setIfInBounds];by_cases e:j=i
  ·subst e;simp[show j<c.size by omega]
  ·rw[qZ (fun h=>e h.symm)];show c[j]? = some (if j=i then v else f j);rw[qZ e];exact l j o
end RowB
def l7(l:List UInt8)(j:Nat):Value:=.int .u8 ((l.getD j 0).toNat:Int)
theorem Kz{w:World}{b n:Nat}{l:List UInt8}(h:RowB w b n (l7 l))(k:l.length=n)(d:Nat):(convert 154 9 (.slice (some ⟨b,0,none⟩) n d)).run prog w=.ok (.string ⟨l.toArray⟩) w:=by
 have h:=run_convert_bytes_back (P:=prog) w 154 9 5 ⟨b,0,none⟩ d l Tryz.underlying154 Tryz.underlying5 Tryz.underlying9
  (fun j i=>by
   have e:(⟨b,0,none⟩:Addr).add j=⟨b,j,none⟩:=(by simp[Addr.add];omega);rw[e,h.cell (by omega)];unfold l7;rw[qj,qE i];rfl)
 rw[k]at h;exact h
end
section
open Go.RowKit
def kN(w:World)(v:Value)(l:List Int):Prop :=
 (l=[]/\∃a c,v=.slice a 0 c)∨∃b off d,v=.slice (some ⟨b,off,none⟩) l.length d/\l.length<=d/\d<=maxLen/\b<w.1.size/\∀i x,l[i]? = some x->w.cell? ⟨b,off+i,none⟩=some (.int .i64 x)
theorem kN.cell{w:World}{v:Value}{l:List Int}(h:kN w v l):∃A off d,v=.slice A l.length d/\l.length<=maxLen/\∀i x,l[i]? = some x->∃b,A=some ⟨b,off,none⟩/\w.cell? ⟨b,off+i,none⟩=some (.int .i64 x):=by
 rcases h with⟨rfl,a,c,rfl⟩|⟨b,off,d,j,o,p,q,k⟩
 ·exact⟨a,0,c,rfl,qI _,fun i x h=>by simp at h⟩
 ·exact⟨some ⟨b,off,none⟩,off,d,j,by omega,fun i x m=>⟨b,rfl,k i x m⟩⟩
theorem kN.below{w w':World}{v:Value}{l:List Int}{B:Nat}(h:kN w v l)(j:Below B w w')(r:w.1.size<=B):kN w' v l:=by
 rcases h with h|⟨b,off,k,rfl,m,o,d,q⟩
 ·exact qX h
 ·exact qY ⟨b,off,k,rfl,m,o,qS d j.size,fun i x s=>(j.cell (p:=⟨b,off+i,none⟩) (qS d r)).trans (q i x s)⟩
theorem sn: (prog.info? 3).map (fun i=>(i.zero,i.size,i.bytes))=some (some (.int .i64 0),1,8):=by kernel_rfl
end
section
open Go.ChangeShapes Go.WideShapes Go.ChangeAt Go.RowKit Go.Deep
structure jI where
 h:Nat
 v:Int
 p:Int
def fZ(x:jI):List Value:=[.int .u64 (x.h:Nat),.int .i64 x.v,.int .i64 x.p]
abbrev ki(x:jI):Value:=.agg #[.int .u64 (x.h:Nat),x.v,x.p]
structure ks(x:jI):Prop where
 h:x.h<18446744073709551616
 v0:-9223372036854775808<=x.v
 v1:x.v<=9223372036854775807
 p0:-9223372036854775808<=x.p
 p1:x.p<=9223372036854775807
def kB(w:World)(v:Value)(l:List jI):Prop :=
 (l=[]/\∃a c,v=.slice a 0 c)∨∃b off d,v=.slice (some ⟨b,off,none⟩) l.length d/\l.length<=d/\d<=maxLen/\b<w.1.size /\
  ∀i x,l[i]? = some x->∀j u,(fZ x)[j]? = some u->w.cell? ⟨b,off+(i*3+j),none⟩=some u
theorem kB.below{w w':World}{v:Value}{l:List jI}{B:Nat}(h:kB w v l)(d:Below B w w')(o:w.1.size<=B):kB w' v l:=by
 rcases h with h|⟨b,off,m,z,r,s,k,q⟩
 ·exact qX h
 ·exact qY ⟨b,off,m,z,r,s,qS k d.size,fun i x A j u y=>(d.cell (p:=⟨b,off+(i*3+j),none⟩) (qS k o)).trans (q i x A j u y)⟩
theorem Kj: laidOutB prog=true:=by kernel_rfl
end
section
theorem Kk{a b:Tw}(h:a=b):(a.toList != b.toList)=false/\(a.toList==b.toList)=true/\(!(a.toList==b.toList))=false:=by subst h;simp
theorem Kv{a b:Tw}(h:¬a=b):(a.toList != b.toList)=true/\(a.toList==b.toList)=false/\(!(a.toList==b.toList))=true:=by
 have:¬a.toList=b.toList:=fun x=>by
  rw[Lib.toList_data,Lib.toList_data]at x;exact h (qi (Array.toList_inj.1 x))
 simpa using this
end
section
open Go.RowKit
def cE(s p:Tw):Bool:=decide (p.size<=s.size/\s.extract 0 p.size=p)
theorem F9(s p:Tw)(w:World)(j:s.size<=maxLen)(i:p.size<=maxLen):
  Calls prog 208 #[s,p] w (X0 (.bool (cE s p)) w):=by
 unfold maxLen at j i;unfold cE;by_cases h:p.size<=s.size
 ·have k:(p.size:Int)<=(s.size:Int):=by omega
  by_cases d:s.extract 0 p.size=p
  ·rw[qB ⟨h,d⟩];obtain⟨l,m,o⟩:=Kk d;clear d;go_enter func208,ntmps208;go_wp2;go_ret;exact⟨rfl,rfl⟩
  ·rw[qA (fun h=>d h.2)];obtain⟨l,m,o⟩:=Kv d;clear d;go_enter func208,ntmps208;go_wp2;go_ret;exact⟨rfl,rfl⟩
 ·rw[qA (fun q=>h q.1)];have k:decide ((p.size:Int)<=(s.size:Int))=false:=qA (by omega);go_enter func208,ntmps208;go_wp2;go_ret;exact⟨rfl,rfl⟩
theorem XB(s p:Tw)(w:World)(i:s.size<=maxLen)(d:p.size<=maxLen):
  Calls prog 153 #[s,p] w (X0 (.bool (cE s p)) w):=by
 have H:=qQ (F9 s p w i d);go_enter func153,ntmps153;go_wp2_with fail;refine(H.out).mono ?_;rintro e j⟨rfl,rfl⟩;go_wp2;go_ret;exact⟨rfl,rfl⟩
end
section
abbrev LvL:= List (List Int)
def cX(L:LvL):Prop:=L.length<=5/\L.flatten.length<=40/\(∀x∈L.flatten,0<=x)/\L.flatten.Nodup
instance (L : LvL):Decidable (cX L) := by unfold cX; infer_instance
def ye(L:LvL):Bool:=decide (cX L)
def pP(L:LvL)(k:Nat):LvL:=L.take k++List.replicate (5-k) []
def vA(L:LvL):LvL:=pP L L.length
def kt(L:LvL):Nat->Nat
 | 0=>0
 | n+1=>if L.getD n []=[] then kt L n else n+1
def jc(L:LvL):LvL:=L.take (kt L L.length)
def ug(L:LvL)(k:Nat)(n:Int):LvL:=L.set k (L.getD k []++[n])
def yU(L:LvL)(n:Int):Int:=if ye L=false∨n<0∨n∈L.flatten then 2 else if L.flatten.length=40 then 60 else 0
def kL(L:LvL)(n:Int):LvL:=if yU L n=0 then jc (ug (vA L) 0 n) else []
def vH(L:LvL)(k:Int):Int:=if ye L=false∨k<0∨4<k then 2 else if (vA L).getD k.toNat []=[] then 4 else 0
def kU(L:LvL)(k:Int):List Int:=if vH L k=0 then(vA L).getD k.toNat [] else []
def toL(k:Nat):Nat:=if k<4 then k+1 else 4
def yL(L:LvL)(k n:Int):Int:=if vH L k≠0 then vH L k else if n<0∨n∈L.flatten then 2 else 0
def kh(L:LvL)(k n:Int):LvL:=if yL L k n=0 then jc (ug ((vA L).set k.toNat []) (toL k.toNat) n) else []
theorem Fq{L:LvL}{k:Nat}(d:k<=L.length)(h:L.length<=5):(pP L k).length=5:=by
 unfold pP;rw[qL,qT,List.length_replicate];omega
theorem pR{L:LvL}(h:L.length<=5):(vA L).length=5:=Fq (qK _) h
theorem Fx(n:Nat):(List.replicate n ([]:List Int)).flatten=[]:=by
 induction n with
 | zero=>rfl
 | succ n d=>rw[List.replicate_succ,List.flatten_cons,d];rfl
theorem nw(L:LvL):(vA L).flatten=L.flatten:=by
 unfold vA pP;rw[List.take_length,List.flatten_append,Fx,List.append_nil]
theorem l8(L:LvL)(k:Nat):(vA L).getD k []=L.getD k []:=by
 unfold vA pP;rw[List.take_length,qj,qj];rcases qd k L.length with h|h
 ·rw[List.getElem?_append_left h]
 ·rw[List.getElem?_append_right h,xX h];rcases qd (k-L.length) (5-L.length) with d|d
  ·rw[qE (by rw[List.length_replicate];exact d),List.getElem_replicate];rfl
  ·rw[xX (by rw[List.length_replicate];exact d)]
theorem sa(L:LvL):∀n,kt L n<=n
 | 0=>qK _
 | n+1=>by
   unfold kt;split
   ·exact Nat.le_succ_of_le (sa L n)
   ·exact qK _
theorem Ky(L:LvL):∀n,n<=L.length->(L.take (kt L n)).flatten=(L.take n).flatten
 | 0,_=>rfl
 | n+1,h=>by
   unfold kt;split
   ·rename_i e;rw[Ky L n (by omega),xQ,qE (by omega),List.flatten_append];rw[qj,qE (by omega)]at e;have d:L[n]=[]:=e;rw[d];simp
   ·rfl
theorem l9(L:LvL):(jc L).flatten=L.flatten:=by
 unfold jc;rw[Ky L _ (qK _),List.take_length]
theorem pS(L:LvL):(jc L).length<=L.length:=by unfold jc;rw[qT];omega
theorem XC(L:LvL)(k:Nat)(n:Int):(ug L k n).length=L.length:=List.length_set
theorem se{L:LvL}{k:Nat}(n:Int)(h:k<L.length):(ug L k n).flatten.Perm (n::L.flatten):=by
 unfold ug;rw[List.set_eq_take_append_cons_drop,qV h,qj,qE h]
 have e:L.flatten=(L.take k).flatten++(L[k]++(L.drop (k+1)).flatten):=by
  conv=>lhs;rw[<-qp k L,List.flatten_append,xZ h,List.flatten_cons]
 rw[e,List.flatten_append,List.flatten_cons];show((L.take k).flatten++((L[k]++[n])++(L.drop (k+1)).flatten)).Perm _;have d:(L.take k).flatten++((L[k]++[n])++(L.drop (k+1)).flatten)=((L.take k).flatten++L[k])++n::(L.drop (k+1)).flatten:=by simp
 rw[d];refine List.perm_middle.trans ?_;rw[qh]
theorem Fz{L:LvL}{k:Nat}(h:k<L.length):(L.set k []).flatten.Sublist L.flatten/\(L.set k []).flatten.length+(L.getD k []).length=L.flatten.length:=by
 rw[List.set_eq_take_append_cons_drop,qV h,qj,qE h]
 have e:L.flatten=(L.take k).flatten++(L[k]++(L.drop (k+1)).flatten):=by
  conv=>lhs;rw[<-qp k L,List.flatten_append,xZ h,List.flatten_cons]
 rw[e,List.flatten_append,List.flatten_cons,List.nil_append];refine⟨List.Sublist.append_left (List.sublist_append_right _ _) _, ?_⟩;simp only[List.length_append,Option.getD_some];omega
theorem Ku(k:Nat):toL k<5:=by unfold toL;split<;>omega
theorem Kg{L:LvL}{n:Int}(h:yU L n=0):cX (kL L n)/\(kL L n).flatten.length=L.flatten.length+1/\∀x∈(kL L n).flatten,x=n∨x∈L.flatten:=by
 have i:=h;unfold yU at i;split at i
 ·cases i
 ·rename_i c;split at i
  ·cases i
  ·rename_i c2;have j:cX L:=of_decide_eq_true (by cases o:ye L with|true=>exact o|false=>exact absurd (qX o) c);have r:¬n<0:=fun e=>c (qY (qX e))
   have p:n ∉ L.flatten:=fun e=>c (qY (qY e))
   unfold kL;rw[qV h];have q:=pR j.1;have d:=se n (L:=vA L) (k:=0) (by omega);rw[nw]at d;rw[<-l9 (ug (vA L) 0 n)]at d;have m:=d.length_eq;rw[qu]at m;refine⟨⟨?_, ?_,fun x l=>?_,d.nodup_iff.2 (List.nodup_cons.2 ⟨p,j.2.2.2⟩)⟩,m,fun x l=>?_⟩
   ·have:=pS (ug (vA L) 0 n);rw[XC]at this;omega
   ·have:=j.2.1;omega
   ·rcases qM.1 (d.mem_iff.1 l) with e|e
    ·omega
    ·exact j.2.2.1 x e
   ·exact qM.1 (d.mem_iff.1 l)
theorem pT{L:LvL}{k:Int}(h:vH L k=0):cX L/\0<=k/\k<=4/\kU L k=L.getD k.toNat []/\0<(kU L k).length:=by
 have d:=h;unfold vH at d;split at d
 ·cases d
 ·rename_i c;split at d
  ·cases d
  ·rename_i c2;have e:kU L k=(vA L).getD k.toNat []:=(by unfold kU;rw[qV h]);refine⟨of_decide_eq_true (by cases i:ye L with|true=>exact i|false=>exact absurd (qX i) c), ?_, ?_,by rw[e,l8],by rw[e];exact List.length_pos_iff.2 c2⟩
   ·exact Int.not_lt.1 fun e=>c (qY (qX e))
   ·exact Int.not_lt.1 fun e=>c (qY (qY e))
theorem Kb{L:LvL}{k n:Int}(h:yL L k n=0):cX (kh L k n)/\(kh L k n).flatten.length+(kU L k).length=L.flatten.length+1/\∀x∈(kh L k n).flatten,x=n∨x∈L.flatten:=by
 have d:=h;unfold yL at d;split at d
 ·rename_i c;exact absurd d c
 ·rename_i c;split at d
  ·cases d
  ·rename_i c2;obtain⟨l,z,A,r,-⟩:=pT (L:=L) (k:=k) (by omega);have u:¬n<0:=fun e=>c2 (qX e)
   have q:n ∉ L.flatten:=fun e=>c2 (qY e)
   unfold kh;rw[qV h];have o:=pR l.1;obtain⟨j,s⟩:=Fz (L:=vA L) (k:=k.toNat) (by omega);rw[l8,<-r,nw]at s;rw[nw]at j;have i:=se n (L:=(vA L).set k.toNat []) (k:=toL k.toNat) (by rw[List.length_set,o];exact Ku _);rw[<-l9 (ug ((vA L).set k.toNat []) (toL k.toNat) n)]at i;have p:=i.length_eq;rw[qu]at p;have y:0<(kU L k).length:=(pT (L:=L) (k:=k) (by omega)).2.2.2.2;refine⟨⟨?_, ?_,fun x m=>?_,i.nodup_iff.2 (List.nodup_cons.2 ⟨fun e=>q (j.subset e),j.nodup l.2.2.2⟩)⟩,by omega,fun x m=>?_⟩
   ·have:=pS (ug ((vA L).set k.toNat []) (toL k.toNat) n);rw[XC,List.length_set]at this;omega
   ·have:=l.2.1;omega
   ·rcases qM.1 (i.mem_iff.1 m) with e|e
    ·omega
    ·exact l.2.2.1 x (j.subset e)
   ·rcases qM.1 (i.mem_iff.1 m) with e|e
    ·exact qX e
    ·exact qY (j.subset e)
def mu(s:List Int)(m:Nat):Prop:=∀i,i<m->0<=s.getD i 0/\(0<i->s.getD i 0≠s.getD (i-1) 0)
def yg(l:List Int):List Int:=l.mergeSort fun x y=>decide (x<=y)
theorem p7(l:List Int):(yg l).length=l.length:=(List.mergeSort_perm l _).length_eq
theorem Fj(l:List Int):∀i j:Nat,(hi:i<(yg l).length)->(d:j<(yg l).length)->i<j->(yg l)[i]<=(yg l)[j]:=by
 have h:=List.pairwise_mergeSort (le:=fun x y:Int=>decide (x<=y)) (fun a b c m o=>by simp at*;omega) (fun a b=>by simp;omega) l;intro i j hi d k;exact of_decide_eq_true (xY.1 h i j hi d k)
theorem Fk(l:List Int):mu (yg l) (yg l).length↔(∀x∈l,0<=x)/\l.Nodup:=by
 have m:(yg l).Perm l:=List.mergeSort_perm l _;have q:=Fj l;constructor
 ·intro h;refine⟨fun x r=>?_,m.nodup_iff.1 ?_⟩
  ·obtain⟨i,d,rfl⟩:=List.getElem_of_mem (m.mem_iff.2 r);have:=(h i d).1
   rwa [qj,qE d]at this
  ·refine xY.2 fun i j d o z=>?_
   have k:=(h j o).2 (by omega);rw[qj,qE o,qj,qE (show j-1<(yg l).length by omega)]at k;have u:(yg l)[j]≠(yg l)[j-1]:=k;have p:=q (j-1) j (by omega) o (by omega)
   have y:(yg l)[i]<=(yg l)[j-1]:=by
    rcases qd i (j-1) with c|c
    ·exact q i (j-1) d (by omega) c
    ·have:i=j-1:=(by omega);subst this;exact Int.le_refl _
   omega
 ·rintro ⟨k,p⟩ i d;refine⟨?_,fun s=>?_⟩
  ·rw[qj,qE d];exact k _ (m.mem_iff.1 (List.getElem_mem d))
  ·rw[qj,qE d,qj,qE (show i-1<(yg l).length by omega)];have:=xY.1 (m.nodup_iff.2 p) (i-1) i (by omega) d (by omega);exact fun e=>this e.symm
end
section
open Go.RowKit Go.Shelf
def Kc(K:Nat)(w:World)(e:Ending)(w':World):Prop:=e=.returned (.int .i64 (K:Nat))/\Below w.1.size w w'
theorem Fv(f:FuncId)(y z:Value)(n K:Nat)(w:World)(V:n<=1000000)(I:K<=n)(D:Enters prog f)
  (s:∀(i:Nat) (W:World),i<n->Below w.1.size w W->Calls prog f #[i,y,z] W fun e C=>e=.returned (.bool (decide (K<=i)))/\Below W.1.size W C):
  Calls prog 205 #[n,.func (.func f) #[] #[y,z]] w (Kc K w):=by
 have A:=qQ s;unfold Enters at D;clear s;go_enter func205,ntmps205;go_wp2;go_loopw [5,6] (fun o l wr=>∃a b:Nat,a<=K/\K<=b/\b<=n/\o=.int .i64 a/\l=.int .i64 b/\Below w.1.size w wr) (fun o l _=>(intOf l).toNat-(intOf o).toNat)
 case atStart=>exact⟨0,n,qI _,I,qK _,rfl,rfl,qG _ _⟩
 case round =>
  obtain⟨a,b,J,N,L,rfl,rfl,j⟩:=hrel;by_cases T:a<b
  ·obtain⟨d,u⟩:∃d,d=(a+b)/2:=⟨_,rfl⟩
   have Q:a<=d:=(by omega);have R:d<b:=(by omega);have X:(a:Int)<(b:Int):=(by omega);have U:((a:Int)+(b:Int))/2=(d:Int):=(by omega);have M:d<n:=(by omega);have S:(d:Int)<=1000000:=(by omega);have k:=A.out d wr M j;cases m:decide (K<=d)
   all_goals
    rw[m]at k;have B:=qQ k;have p:=qQ m;have O:=qQ u;clear m k u;go_wp2_with fail;refine B.out.mono ?_;rintro e Y⟨rfl,q⟩;have r:=bj j q;clear j q;go_wp2;go_roundw
    case rel =>
     first
     | exact⟨d+1,b,by have:=of_decide_eq_false p.out;omega,N,L,by go_num,rfl,r⟩
     | exact⟨a,d,J,of_decide_eq_true p.out,by omega,rfl,by go_num,r⟩
    case measure=>simp[intOf];omega
  ·obtain rfl:a=b:=(by omega);obtain rfl:a=K:=(by omega);go_wp2;go_ret;exact⟨rfl,j⟩
end
section
open Go.ChangeShapes Go.WideShapes Go.ChangeAt Go.RowKit Go.Deep
def fh(x:Int):Value:=.int .i64 x
theorem kN.form{w:World}{v:Value}{l:List Int}(h:kN w v l):∃A off d,v=.slice A l.length d/\l.length<=maxLen /\
  ∀i x,l[i]? = some x->∃b,A=some ⟨b,off,none⟩/\b<w.1.size/\w.cell? ⟨b,off+i,none⟩=some (.int .i64 x):=by
 rcases h with⟨rfl,a,c,rfl⟩|⟨b,off,d,rfl,o,p,j,k⟩
 ·exact⟨a,0,c,rfl,qI _,fun i x h=>by simp at h⟩
 ·exact⟨some ⟨b,off,none⟩,off,d,rfl,by omega,fun i x m=>⟨b,rfl,j,k i x m⟩⟩
theorem Fy{l:List Int}:∀u∈l.map fh,u.oneCell'=true:=by
 intro u d;obtain⟨x,-,rfl⟩:=qP.1 d;rfl
abbrev jy(w:World)(base:Nat)(v:Value)(l:List Int):Prop:=w.ownsRow base 3 1 v l.length (l.map fh)
theorem jy.nil(w:World)(base:Nat):jy w base (.slice none 0 0) []:=World.ownsRow_nil _ _ _ _
theorem jy.xH{w:World}{base:Nat}{v:Value}{l:List Int}(h:jy w base v l):kN w v l:=by
 have j:=h;rcases h.2 with⟨d,o⟩|⟨g,m,s,d,u,p,r,q,z,A⟩
 ·exact qX ⟨xK.1 o,none,0,d⟩
 ·refine qY ⟨g,0,m,d,r,q,(qn.1 p).1,fun i x k=>?_⟩;have y:i<l.length:=(qO.1 k).1;rw[d]at j;rw[qe];refine(j.cellAt i (by omega)).trans ?_;show(l.map fh)[i]? = _;rw[qv,k];rfl
theorem jy.below{w w':World}{base B:Nat}{v:Value}{l:List Int}(h:jy w base v l)(o:Below B w w')(m:w.1.size<=B):jy w' base v l:=by
 refine⟨h.1, ?_⟩;rcases h.2 with k|⟨g,i,j,s,p,d,r⟩
 ·exact qX k
 ·obtain⟨q,_⟩:=qn.1 d;exact qY ⟨g,i,j,s,p,(o.block g (qS q m)).trans d,r⟩
theorem jy.block{w:World}{base:Nat}{v:Value}{l:List Int}(h:jy w base v l):∀k,v.ownBlock=some k->base<=k/\k<w.1.size:=fun k d=>h.lt k d
theorem jy.down{w:World}{base base':Nat}{v:Value}{l:List Int}(h:jy w base v l)(k:base'<=base):jy w base' v l:=by
 refine⟨h.1, ?_⟩;rcases h.2 with j|⟨g,d,i,o,m,r⟩
 ·exact qX j
 ·exact qY ⟨g,d,i,o,qR k m,r⟩
theorem kN.src{w:World}{v:Value}{l:List Int}(h:kN w v l):fX w 1 v l.length (l.map fh):=by
 refine⟨by rw[qq,Nat.mul_one], ?_⟩;rcases h with⟨rfl,a,c,rfl⟩|⟨b,off,i,rfl,p,q,r,m⟩
 ·cases a with
  | none=>exact qX ⟨c,rfl,rfl⟩
  | some a=>exact qY ⟨a,c,rfl,fun j u d=>by cases d⟩
 ·refine qY ⟨⟨b,off,none⟩,i,rfl,fun j u d=>?_⟩;rw[qv]at d;obtain⟨x,o,rfl⟩:=xG.1 d;have k:(⟨b,off,none⟩:Addr).add j=⟨b,off+j,none⟩:=by unfold Addr.add;split<;>simp_all
  rw[k];exact m j x o
theorem Fu(w:World)(x:Int):kN (w.alloc (.cells #[x] 3)) (.slice (some ⟨w.1.size,0,none⟩) 1 1) [x]:=by
 refine qY ⟨w.1.size,0,1,rfl,qK _,by unfold maxLen;omega,by simp,fun i y d=>?_⟩
 match i,d with
 | 0,d =>
   obtain rfl:x=y:=(by simpa using d);simp
theorem XD{w:World}{base:Nat}{d i:Value}{l m:List Int}(u:jy w base d l)(y:kN w i m)(I:l.length+m.length<=1000000)(r:base<=w.1.size)(k:TypeId):
  ∃A c w',(Builtin.append_ #[37,37] k #[d,i]).run prog w=.ok (.slice A (l.length+m.length) c) w'/\jy w' base (.slice A (l.length+m.length) c) (l++m)/\w.grownBy w' d.ownBlock/\((Value.slice A (l.length+m.length) c).ownBlock=d.ownBlock∨(Value.slice A (l.length+m.length) c).ownBlock=some w.1.size):=by
 obtain⟨D,s,z,B,C⟩:=info_parts sn;obtain⟨J,w',o,j,p,q⟩:=fg (P:=prog) w base 37 3 D _ 1 8 k Tryz.underlying37 s z B C rfl (by decide) d l.length (l.map fh) u i m.length (m.map fh) y.src Fy (by unfold maxLen;omega) (by omega) r;obtain⟨A,c,rfl,-,-,-⟩:=vl j;refine⟨A,c,w',o, ?_,p,q⟩;unfold jy;rw[List.map_append,qL];exact j
theorem si{B:Nat}{w w':World}{v:Value}(h:w.grownBy w' v.ownBlock)(i:B<=w.1.size)(d:∀k,v.ownBlock=some k->B<=k):Below B w w':=⟨h.os,h.tape,h.output,h.size,fun k j=>h.block k (by omega) (fun e=>by have:=d k e.symm;omega)⟩
theorem Kd(A:Option Addr)(n c:Nat)(w:World):(binOp .eql 37 (.slice A n c) (.slice none 0 0)).run prog w=.ok (.bool A.isNone) w:=by
 have d:=run_equal_slice_nil (P:=prog) w 37 3 A n c Tryz.underlying37;simp only[binOp];simp[d]
def bN(w:World)(l:List Int)(e:Ending)(w':World):Prop:=∃A c,e=.returned (.slice A l.length c)/\jy w' w.1.size (.slice A l.length c) l/\Below w.1.size w w'
theorem XE(v:Value)(l:List Int)(w:World)(h:kN w v l)(z:l.length<=500000):Calls prog 105 #[v] w (bN w l):=by
 obtain⟨A,off,r,rfl,-,-⟩:=h.form;cases A with
 | none =>
   have O:l=[]:=by
    rcases h with⟨e,_⟩|⟨b,S,R,e,_⟩
    ·exact e
    ·cases e
   subst O;have Q:=fun W=>Kd none 0 r W
   clear h z;go_enter func105,ntmps105;go_wp2;go_ret;exact⟨none,0,rfl,jy.nil _ _,qG _ _⟩
 | some a =>
   have j:=(qG w.1.size w).alloc (qK _) (.cells #[] 3);have C:jy (w.alloc (.cells #[] 3)) w.1.size (.slice (some ⟨w.1.size,0,none⟩) 0 0) []:=World.ownsRow_made w #[] 0 (qK _) (qI _) rfl;have u:=h.below j (qK _);obtain⟨I,L,w',d,i,s,M⟩:=XD C u (by simp;omega) (by simp) 37;have y:=j.trans (si s (B:=w.1.size) (by simp) (fun k N=>by simp[Value.ownBlock]at N;omega));have K:=qQ y;rw[List.nil_append]at i;have D:([]:List Int).length+l.length=l.length:=(by simp);rw[D]at d i;have p:=qQ i;clear h z j C u i s M y D;obtain⟨m,o⟩:∃m,m=l.length:=⟨_,rfl⟩
   have q:=qQ o;rw[<-o]at d p ⊢;clear o;have J:=qQ d;have Q:=fun W=>Kd (some a) m r W
   clear d;go_enter func105,ntmps105;go_wp2_with (first|(at_builtin;refine yC rfl _ _ rfl rfl rfl J.out ?_)|fail);go_ret;exact⟨I,L,by rw[<-q.out];rfl,by rw[<-q.out];exact p.out,K.out⟩
structure LvS where
 v:Value
 l:List Int
abbrev lvl(L:List LvS):List (List Int):=L.map LvS.l
abbrev gH(L:List LvS):List Value:=L.map LvS.v
def fm(w:World)(L:List LvS):Prop:=∀x∈L,kN w x.v x.l
def fJ(w:World)(v:Value)(L:List LvS):Prop :=
 (L=[]/\∃a c,v=.slice a 0 c)∨∃b off d,v=.slice (some ⟨b,off,none⟩) L.length d/\L.length<=d/\d<=maxLen/\b<w.1.size/\∀i x,L[i]? = some x->w.cell? ⟨b,off+i,none⟩=some x.v
def oQ(w:World)(v:Value)(L:List LvS):Prop:=fJ w v L/\fm w L
theorem fm.below{w w':World}{L:List LvS}{B:Nat}(h:fm w L)(i:Below B w w')(d:w.1.size<=B):fm w' L:=fun x j=>(h x j).below i d
theorem fJ.below{w w':World}{v:Value}{L:List LvS}{B:Nat}(h:fJ w v L)(d:Below B w w')(l:w.1.size<=B):fJ w' v L:=by
 rcases h with h|⟨b,off,k,r,o,q,j,m⟩
 ·exact qX h
 ·exact qY ⟨b,off,k,r,o,q,qS j d.size,fun i x s=>(d.cell (p:=⟨b,off+i,none⟩) (qS j l)).trans (m i x s)⟩
theorem oQ.below{w w':World}{v:Value}{L:List LvS}{B:Nat}(h:oQ w v L)(i:Below B w w')(d:w.1.size<=B):oQ w' v L:=⟨h.1.below i d,h.2.below i d⟩
theorem fJ.form{w:World}{v:Value}{L:List LvS}(h:fJ w v L):∃A off d,v=.slice A L.length d/\L.length<=maxLen /\
  ∀i x,L[i]? = some x->∃b,A=some ⟨b,off,none⟩/\b<w.1.size/\w.cell? ⟨b,off+i,none⟩=some x.v:=by
 rcases h with⟨rfl,a,c,rfl⟩|⟨b,off,d,rfl,m,o,j,k⟩
 ·exact⟨a,0,c,rfl,qI _,fun i x h=>by simp at h⟩
 ·exact⟨some ⟨b,off,none⟩,off,d,rfl,by omega,fun i x l=>⟨b,rfl,j,k i x l⟩⟩
theorem fm.one{w:World}{L:List LvS}(h:fm w L):∀u∈gH L,u.oneCell'=true:=by
 intro u d;obtain⟨x,i,rfl⟩:=qP.1 d;obtain⟨A,off,j,e,-,-⟩:=(h x i).form;rw[e];rfl
abbrev jl(w:World)(base:Nat)(v:Value)(L:List LvS):Prop:=w.ownsRow base 37 1 v L.length (gH L)
theorem jl.nil(w:World)(base:Nat):jl w base (.slice none 0 0) []:=World.ownsRow_nil _ _ _ _
theorem jl.at_{w:World}{base:Nat}{v:Value}{L:List LvS}(h:jl w base v L):fJ w v L:=by
 have j:=h;rcases h.2 with⟨d,m⟩|⟨g,l,r,d,s,o,q,p,y,z⟩
 ·exact qX ⟨xK.1 m,none,0,d⟩
 ·refine qY ⟨g,0,l,d,q,p,(qn.1 o).1,fun i x k=>?_⟩;have u:i<L.length:=(qO.1 k).1;rw[d]at j;rw[qe];refine(j.cellAt i (by omega)).trans ?_;show(L.map LvS.v)[i]? = _;rw[qv,k];rfl
theorem jl.xH{w:World}{base:Nat}{v:Value}{L:List LvS}(h:jl w base v L)(d:fm w L):oQ w v L:=⟨h.at_,d⟩
theorem jl.below{w w':World}{base B:Nat}{v:Value}{L:List LvS}(h:jl w base v L)(m:Below B w w')(l:w.1.size<=B):jl w' base v L:=by
 refine⟨h.1, ?_⟩;rcases h.2 with k|⟨g,i,j,q,o,d,r⟩
 ·exact qX k
 ·obtain⟨p,_⟩:=qn.1 d;exact qY ⟨g,i,j,q,o,(m.block g (qS p l)).trans d,r⟩
theorem jl.block{w:World}{base:Nat}{v:Value}{L:List LvS}(h:jl w base v L):∀k,v.ownBlock=some k->base<=k:=by
 intro k d;rcases h.2 with⟨rfl,_⟩|⟨g,j,l,rfl,i,_⟩
 ·cases d
 ·cases d;exact i
theorem jl.down{w:World}{base base':Nat}{v:Value}{L:List LvS}(h:jl w base v L)(k:base'<=base):jl w base' v L:=by
 refine⟨h.1, ?_⟩;rcases h.2 with j|⟨g,d,i,m,l,r⟩
 ·exact qX j
 ·exact qY ⟨g,d,i,m,qR k l,r⟩
theorem jl.some_{w:World}{base n c:Nat}{A:Option Addr}{L:List LvS}(h:jl w base (.slice A n c) L)(o:0<L.length):∃g,A=some ⟨g,0,none⟩/\base<=g/\g<w.1.size/\n=L.length:=by
 rcases h.2 with⟨d,m⟩|⟨g,k,l,d,i,j,_⟩
 ·omega
 ·obtain⟨rfl,rfl,-⟩:=Value.slice.inj d;exact⟨g,rfl,i,(qn.1 j).1,rfl⟩
theorem jl.cell{w:World}{base g n c i:Nat}{L:List LvS}{x:LvS}(h:jl w base (.slice (some ⟨g,0,none⟩) n c) L)(j:n=L.length)(d:L[i]? = some x):w.cell? ⟨g,i,none⟩=some x.v/\w.frozen? ⟨g,i,none⟩=false:=by
 subst j;have k:i<L.length:=(qO.1 d).1;refine⟨(h.cellAt i (by omega)).trans ?_,h.frozenAt i⟩;show(L.map LvS.v)[i]? = _;rw[qv,d];rfl
theorem jl.put{w:World}{base g n c i:Nat}{L:List LvS}(h:jl w base (.slice (some ⟨g,0,none⟩) n c) L)(j:n=L.length)(x:LvS):jl (w.setCell ⟨g,i,none⟩ x.v) base (.slice (some ⟨g,0,none⟩) n c) (L.set i x):=by
 subst j;have d:=(h.stored i x.v).1;unfold jl gH;rw[List.length_set,List.map_set];exact d
theorem XF: (prog.info? 37).map (fun i=>(i.zero,i.size,i.bytes))=some (some (.slice none 0 0),1,24):=by kernel_rfl
theorem fJ.src{w:World}{v:Value}{L:List LvS}(h:fJ w v L):fX w 1 v L.length (gH L):=by
 refine⟨by unfold gH;rw[qq,Nat.mul_one], ?_⟩;rcases h with⟨rfl,a,c,rfl⟩|⟨b,off,i,rfl,o,p,q,l⟩
 ·cases a with
  | none=>exact qX ⟨c,rfl,rfl⟩
  | some a=>exact qY ⟨a,c,rfl,fun j u d=>by cases d⟩
 ·refine qY ⟨⟨b,off,none⟩,i,rfl,fun j u d=>?_⟩;unfold gH at d;rw[qv]at d;obtain⟨x,m,rfl⟩:=xG.1 d;have k:(⟨b,off,none⟩:Addr).add j=⟨b,off+j,none⟩:=by unfold Addr.add;split<;>simp_all
  rw[k];exact l j x m
theorem Fb{w:World}{base:Nat}{d i:Value}{L M:List LvS}(s:jl w base d L)(y:fJ w i M)(p:∀u∈gH M,u.oneCell'=true)(I:L.length+M.length<=1000000)(q:base<=w.1.size)(k:TypeId):
  ∃A c w',(Builtin.append_ #[45,45] k #[d,i]).run prog w=.ok (.slice A (L.length+M.length) c) w'/\jl w' base (.slice A (L.length+M.length) c) (L++M)/\w.grownBy w' d.ownBlock/\((Value.slice A (L.length+M.length) c).ownBlock=d.ownBlock∨(Value.slice A (L.length+M.length) c).ownBlock=some w.1.size):=by
 obtain⟨D,r,z,B,C⟩:=info_parts XF;obtain⟨J,w',l,j,m,o⟩:=fg (P:=prog) w base 45 37 D _ 1 24 k Tryz.underlying45 r z B C rfl (by decide) d L.length (gH L) s i M.length (gH M) y.src p (by unfold maxLen;omega) (by omega) q;obtain⟨A,c,rfl,-,-,-⟩:=vl j;refine⟨A,c,w',l, ?_,m,o⟩;unfold jl gH;rw[List.map_append,qL];exact j
theorem so: (37:TypeId)≠3:=by decide
theorem jl.grown{w w':World}{base base':Nat}{u v:Value}{L:List LvS}{l:List Int}(h:jl w base v L)(o:jy w base' u l)(i:w.grownBy w' u.ownBlock):jl w' base v L :=
 cQ h (F:=u.ownBlock.toList) (jP.grown (jP.refl _ w) i (fun k j=>qX (by rw[j];simp))) (fun b d m=>dF o h so.symm b d (by simpa using m))
theorem jy.xx{w:World}{base base' g n c i:Nat}{v x:Value}{L:List LvS}{l:List Int}(h:jy w base v l)(j:jl w base' (.slice (some ⟨g,0,none⟩) n c) L):jy (w.setCell ⟨g,i,none⟩ x) base v l :=
 vz h (fun d=>dF j h so g d rfl) x
theorem jl.alloc{w:World}{base:Nat}{v:Value}{L:List LvS}(h:jl w base v L)(o:Obj):jl (w.alloc o) base v L:=jl.below h ((qG w.1.size w).alloc (qK _) o) (qK _)
def ub(w:World)(base:Nat)(M:List LvS):Prop:=∀x∈M,jy w base x.v x.l
theorem ub.each{w:World}{base:Nat}{M:List LvS}(h:ub w base M):fm w M:=fun x d=>jy.xH (h x d)
theorem ub.below{w w':World}{base B:Nat}{M:List LvS}(h:ub w base M)(i:Below B w w')(d:w.1.size<=B):ub w' base M:=fun x j=>jy.below (h x j) i d
theorem ub.down{w:World}{base base':Nat}{M:List LvS}(h:ub w base M)(d:base'<=base):ub w base' M:=fun x i=>jy.down (h x i) d
theorem ub.take{w:World}{base:Nat}{M:List LvS}(h:ub w base M)(k:Nat):ub w base (M.take k):=fun x d=>h x (List.mem_of_mem_take d)
def oX(M:List LvS):Prop:=∀(i j:Nat) (x y:LvS),M[i]? = some x->M[j]? = some y->i≠j->∀g,x.v.ownBlock=some g->y.v.ownBlock≠some g
theorem oX.set{M:List LvS}{k:Nat}{x:LvS}(h:oX M)(p:∀g,x.v.ownBlock=some g->∀j y,j≠k->M[j]? = some y->y.v.ownBlock≠some g):oX (M.set k x):=by
 intro i j a b l d o g m;rw[List.getElem?_set]at l d;split at l
 ·rename_i e;subst e;split at l
  ·obtain rfl:x=a:=(by simpa using l);rw[qZ o]at d;exact p g m j b (fun e=>o e.symm) d
  ·cases l
 ·rename_i e;split at d
  ·rename_i q;subst q;split at d
   ·obtain rfl:x=b:=(by simpa using d);intro s;exact p g s i a (fun r=>e r.symm) l m
   ·cases d
  ·exact h i j a b l d o g m
theorem sw{L:List LvS}{k:Nat}{y:LvS}(h:L[k]? = some y):(lvl L)[k]? = some y.l:=by unfold lvl;rw[qv,h];rfl
theorem gh(L:List LvS):(lvl L).length=L.length:=qq _
theorem p8(L:List LvS)(i:Nat)(x:LvS):lvl (L.set i x)=(lvl L).set i x.l:=List.map_set
theorem Kf(L:List LvS)(k:Nat):lvl (L.take k)=(lvl L).take k:=List.map_take
theorem XH{L:List LvS}{k:Nat}{y:LvS}(h:L[k]? = some y):(lvl L).getD k []=y.l:=by rw[qj,sw h];rfl
def vB(w:World)(base:Nat)(v:Value)(R:LvL):Prop:=∃M,jl w base v M/\ub w base M/\lvl M=R
theorem vB.below{w w':World}{base B:Nat}{v:Value}{R:LvL}(h:vB w base v R)(i:Below B w w')(d:w.1.size<=B):vB w' base v R:=by
 obtain⟨M,j,k,l⟩:=h;exact⟨M,jl.below j i d,k.below i d,l⟩
theorem vB.down{w:World}{base base':Nat}{v:Value}{R:LvL}(h:vB w base v R)(d:base'<=base):vB w base' v R:=by
 obtain⟨M,i,j,k⟩:=h;exact⟨M,jl.down i d,j.down d,k⟩
theorem vB.nil(w:World)(base:Nat):vB w base (.slice none 0 0) []:=⟨[],jl.nil _ _,fun x d=>(by cases d),rfl⟩
def km(w:World)(v:Value)(R:LvL):Prop:=∃M,oQ w v M/\lvl M=R
theorem vB.has{w:World}{base:Nat}{v:Value}{R:LvL}(h:vB w base v R):km w v R:=by
 obtain⟨M,d,i,j⟩:=h;exact⟨M,jl.xH d i.each,j⟩
theorem km.below{w w':World}{v:Value}{R:LvL}{B:Nat}(h:km w v R)(k:Below B w w')(j:w.1.size<=B):km w' v R:=by
 obtain⟨M,d,i⟩:=h;exact⟨M,d.below k j,i⟩
theorem km.form{w:World}{v:Value}{R:LvL}(h:km w v R):∃A off d,v=.slice A R.length d/\R.length<=maxLen /\
  ∀i x,R[i]? = some x->∃b u,A=some ⟨b,off,none⟩/\b<w.1.size/\w.cell? ⟨b,off+i,none⟩=some u/\kN w u x:=by
 obtain⟨M,k,rfl⟩:=h;obtain⟨A,off,d,s,r,q⟩:=k.1.form;rw[gh];refine⟨A,off,d,s,r,fun i x j=>?_⟩;unfold lvl at j;rw[qv]at j;obtain⟨y,l,rfl⟩:=xG.1 j;obtain⟨b,m,o,p⟩:=q i y l;exact⟨b,y.v,m,o,p,k.2 y (qN l)⟩
theorem km.nil(w:World)(A:Option Addr)(c:Nat):km w (.slice A 0 c) []:=⟨[],⟨qX ⟨rfl,A,c,rfl⟩,fun x d=>(by cases d)⟩,rfl⟩
end
section
open Go.RowKit
theorem Fc(w:World)(z:Value)(n:Nat)(t:TypeId):RowB (w.alloc (.cells (madeCells #[z] n) t)) w.1.size n (fun _=>z) :=
 ⟨madeCells #[z] n,t,(0,0),World.alloc_heap_new w _,Nat.le_of_eq (size_madeCells _ _).symm,qX rfl,fun i d=>by simp[madeCells,d,Nat.mod_one]⟩
theorem RowB.alloc{w:World}{b n:Nat}{f:Nat->Value}(h:RowB w b n f)(o:Obj):RowB (w.alloc o) b n f:=h.of_block ((World.grownBy_alloc w o none).block b h.lt (by simp))
theorem RowB.grown{w w':World}{b n:Nat}{f:Nat->Value}{row:Option Nat}(h:RowB w b n f)(d:w.grownBy w' row)(i:some b≠row):RowB w' b n f:=h.of_block (d.block b h.lt i)
theorem RowB.own{β:Type}(b n:Nat)(f:β->Nat->Value):Own (fun(s:β) W=>RowB W b n (f s)):=fun s X Y row i l m =>
 i.grown l (fun e=>by
  obtain⟨o,d,k⟩:=m b e.symm;obtain⟨c,t,p,j,_⟩:=i;rw[j]at d;cases d;cases k)
def Kh(D:Nat):Deferred:={ target:=.collected D,args:=#[] }
def gI(B:Nat)(d:List Nat)(W:World):Prop:=d.Nodup/\∀D∈d,B<=D/\W.heap[D]? = some (.deferred (some []))
theorem gI.nil(B:Nat)(W:World):gI B [] W:=⟨List.nodup_nil,fun D h=>by cases h⟩
theorem gI.lt{B:Nat}{d:List Nat}{W:World}(h:gI B d W){D:Nat}(i:D∈d):D<W.1.size:=(qn.1 (h.2 D i).2).1
theorem gI.cons{B:Nat}{d:List Nat}{W:World}(h:gI B d W){D:Nat}(j:B<=D)(k:W.heap[D]? = some (.deferred (some [])))(l:D ∉ d):gI B (D::d) W :=
 ⟨List.nodup_cons.2 ⟨l,h.1⟩,fun E i=>by
  rcases qM.1 i with rfl|i
  ·exact⟨j,k⟩
  ·exact h.2 E i⟩
theorem Fh{β:Type}{B N:Nat}{j:List Nat}(k:∀D∈j,D<N):OwnFrom N (fun(_ : β) W=>gI B j W):=fun s X Y row i l m =>
 ⟨i.1,fun D d=>⟨(i.2 D d).1,(l.block D (i.lt d) (fun e=>by
  have:=(m D e.symm).1;have:=k D d;omega)).trans (i.2 D d).2⟩⟩
theorem gI.setCell{B:Nat}{j:List Nat}{W:World}(h:gI B j W){c:Nat}(l:c<B)(i:Nat)(v:Value):gI B j (W.setCell ⟨c,i,none⟩ v) :=
 ⟨h.1,fun D d=>⟨(h.2 D d).1,(Below.heap_setCell W _ _ D (fun e=>by have:=(h.2 D d).1;have k:D=c:=e;omega)).trans (h.2 D d).2⟩⟩
theorem Kl{F:Fence}{n:Nat}{P:Program}{j:Func}{l:Array Value}{R:Ending->World->Prop}{B:Nat}:∀(d:List Nat) (w:World),gI B d w ->
  (∀w',Below B w w'->LeavesInM F n P j l R [] .returning w')->LeavesInM F n P j l R (d.map Kh) .returning w
 | [],w,_,h=>h w (qG _ _)
 | D::d,w,hD,h=>by
   have h1:=hD.2 D qC;have p:=hD.lt qC;have m:Below B w (w.putObj D (.deferred none)):=(qG B w).grown (grownBy_putObj' w D _) (by omega) (fun k e=>by cases e;exact h1.1);refine⟨by simp,.inl ⟨D,_,rfl,run_takeDeferred h1.2,Kl d _ ⟨(List.nodup_cons.1 hD.1).2,fun E i=>⟨(hD.2 E (qF _ i)).1, ?_⟩⟩ fun w' hw=>h w' (m.trans hw)⟩⟩;have o:E≠D:=fun e=>(List.nodup_cons.1 hD.1).1 (e ▸ i)
   exact((grownBy_putObj' w D (.deferred none)).block E (hD.lt (qF _ i)) (fun e=>by cases e;exact o rfl)).trans (hD.2 E (qF _ i)).2
theorem Km(b:Nat)(w:World):(callFunc 286 #[.int .u64 (b:Nat)]).run prog w=.ok (.value (.float .f64 b)) w:=by
 rw[run_callFunc_extern func286 (by kernel_rfl) (by kernel_rfl) (by kernel_rfl) (e:=Extern.MathFloatBits.float64frombits) (by kernel_rfl)];rfl
theorem Fl{b c:Nat}(h:c<=b):decide ((c:Int)<=(b:Int))=true:=qB (by omega)
theorem Fp{b c:Nat}(h:¬c<=b):decide ((c:Int)<=(b:Int))=false:=qA (by omega)
end
section
open Go.ChangeShapes Go.WideShapes Go.ChangeAt Go.RowKit Go.Deep
structure jd where
 t:Tw
 d:Tw
 b:Nat
def ve(s:Tw)(f:Int)(v:Value):Value:=.agg #[s,f,v]
end
section
open Go.ChangeShapes Go.WideShapes Go.ChangeAt Go.RowKit
section
variable {H:Type}{enc:TypeId × Value -> H}{P:Program}{w:World}{base:Nat}{spare:Nat -> Bool}{held:Bool}
theorem Kn{d:Nat}{t:TypeId}{cs:List Value}{x:DataW H × List MemPlace}(i:P.underlying t=some (.float .f64))(h:DataW.trod enc P w base spare held d t cs=some x):∃n,cs=[.float .f64 n]/\x=(.lit (.float .f64 n),[])/\(Lit.float .f64 n).wf=true:=by
 cases d with
 | zero=>simp[DataW.trod]at h
 | succ n =>
   unfold DataW.trod at h;rw[i]at h;split at h<;>simp_all
end
end
end Go.Proofs.YthejglbnkmimjaaGreat

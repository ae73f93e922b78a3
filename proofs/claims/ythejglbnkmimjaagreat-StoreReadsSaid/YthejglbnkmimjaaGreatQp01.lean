import Derived.Test.YthejglbnkmimjaaGreatQp00
import Derived.Test.YthejglbnkmimjaaGreatProg
import Derived.WalkLawsBesides
import Derived.WalkSpells
import Derived.Deep.OwnRows
import Derived.BigQuiet
import Derived.OpenShut
import Derived.Deep.Fields
import Derived.ProofKit
import Derived.Lib.IndexBytes
import Derived.Shelf.Abstract
import Derived.RangeFuncFrom
set_option linter.unusedVariables false
set_option maxRecDepth 100000
set_option maxHeartbeats 9000000
namespace Go.Proofs.YthejglbnkmimjaaGreat
open Proofs.Tryz
section
open Go.RowKit
theorem mL{k:IntKind}{a b:Int}(h:a=b):Ending.returned (.int k a)=.returned (.int k b):=by rw[h]
theorem Db{k:IntKind}{a b:Int}(h:a=b):Value.int k a=.int k b:=by rw[h]
theorem pK{a b:Bool}(h:a=b):Ending.returned (.bool a)=.returned (.bool b):=by rw[h]
theorem uK{B:Nat}{a w:World}(h:Below B a w)(n:Nat):Below B a (w.drewN n):=⟨h.os,h.tape,h.output,h.size,h.block⟩
theorem bj{a b c:World}(h:Below a.1.size a b)(k:Below b.1.size b c):Below a.1.size a c:=h.trans (k.mono h.size)
theorem Dc{a:Int}(h:(Lit.int .u64 a).wf=true):∃n:Nat,a=n/\n<18446744073709551616:=by
 have:=bounds_u64 h;exact⟨a.toNat,by omega,by omega⟩
theorem Dd{a:Int}(h:(Lit.int .u16 a).wf=true):∃n:Nat,a=n/\n<65536:=by
 have:=bounds_u16 h;exact⟨a.toNat,by omega,by omega⟩
theorem KZ{a:Int}(h:(Lit.int .u8 a).wf=true):∃n:Nat,a=n/\n<256:=by
 have:=bounds_u8 h;exact⟨a.toNat,by omega,by omega⟩
end
section
open Go.RowKit
structure jH(F:List Nat)(w w':World):Prop where
 os:w'.os=w.os
 tape:w'.tape=w.tape
 output:w'.output=w.output
 size:w.1.size<=w'.1.size
 block:∀b,b<w.1.size->b ∉ F->w'.heap[b]? = w.heap[b]?
section
variable {F G:List Nat}{w a b c w':World}
theorem jH.refl(F:List Nat)(w:World):jH F w w:=⟨rfl,rfl,rfl,qK _,fun _ _ _=>rfl⟩
theorem jH.trans(h:jH F a b)(k:jH G b c)(l:∀x∈G,x∈F∨a.1.size<=x):jH F a c :=
 ⟨k.os.trans h.os,k.tape.trans h.tape,k.output.trans h.output,qR h.size k.size,fun x j i =>
  (k.block x (qS j h.size) (fun m=>by rcases l x m with d|d;exact i d;omega)).trans (h.block x j i)⟩
theorem jH.more(h:jH F a b)(i:∀x∈F,x∈G∨a.1.size<=x):jH G a b :=
 ⟨h.os,h.tape,h.output,h.size,fun x l k=>h.block x l (fun j=>by rcases i x j with d|d;exact k d;omega)⟩
theorem jH.drew(h:jH F a w):jH F a w.drew:=⟨h.os,h.tape,h.output,h.size,h.block⟩
theorem jH.drewN(h:jH F a w)(n:Nat):jH F a (w.drewN n):=⟨h.os,h.tape,h.output,h.size,h.block⟩
theorem jH.alloc(h:jH F a w)(o:Obj):jH F a (w.alloc o) :=
 h.trans (G:=[]) ⟨rfl,rfl,rfl,by simp,fun k d _=>Below.heap_alloc _ _ _ d⟩ (fun _ h=>by cases h)
theorem jH.setCell(h:jH F a w){p:Addr}(i:p.block∈F∨a.1.size<=p.block)(u:Value):jH F a (w.setCell p u) :=
 h.trans (G:=[p.block]) ⟨rfl,rfl,rfl,by simp[World.setCell],fun k _ d=>Below.heap_setCell _ _ _ _ (fun e=>d (by simp[e]))⟩ (fun x j=>by
  obtain rfl:x=p.block:=by simpa using j
  exact i)
theorem jH.grown(h:jH F a w){row:Option Nat}(d:w.grownBy w' row)(l:∀k,row=some k->k∈F∨a.1.size<=k):jH F a w' :=
 h.trans (G:=row.toList) ⟨d.os,d.tape,d.output,d.size,fun k i j=>d.block k i (fun e=>j (by rw[<-e];simp))⟩ (fun x m=>l x (by simpa using m))
theorem jH.xA(h:Below w.1.size w w'):jH [] w w':=⟨h.os,h.tape,h.output,h.size,fun k d _=>h.block k d⟩
theorem jH.below(h:jH F w w'){B:Nat}(i:B<=w.1.size)(hF:∀x∈F,B<=x):Below B w w' :=
 ⟨h.os,h.tape,h.output,h.size,fun k j=>h.block k (by omega) (fun d=>by have:=hF k d;omega)⟩
theorem jH.cell(h:jH F w w'){p:Addr}(i:p.block<w.1.size)(d:p.block ∉ F):w'.cell? p=w.cell? p:=World.cell?_of_block (w:=w) (h.block p.block i d)
end
def jF(w:World)(g:Nat)(t:TypeId)(cs:Array Value):Prop:=w.heap[g]? = some (.cells cs t (0,0))
section
variable {F:List Nat}{w w':World}{g:Nat}{t:TypeId}{cs:Array Value}
theorem jF.lt(h:jF w g t cs):g<w.1.size:=by
 rcases qh g w.1.size with i|d
 ·exact i
 ·unfold jF at h;rw[Array.getElem?_eq_none d]at h;cases h
theorem jF.cell(h:jF w g t cs)(i:Nat):w.cell? ⟨g,i,none⟩=cs[i]? := cell_of_row w g i cs t (0,0) h
theorem jF.frozen(h:jF w g t cs)(i:Nat):w.frozen? ⟨g,i,none⟩=false:=frozen_of_row w g i cs t h
theorem jF.new(w:World)(t:TypeId)(cs:Array Value):jF (w.alloc (.cells cs t)) w.1.size t cs:=heap_alloc_new w _
theorem jF.drew(h:jF w g t cs):jF w.drew g t cs:=h
theorem jF.drewN(h:jF w g t cs)(n:Nat):jF (w.drewN n) g t cs:=h
theorem jF.alloc(h:jF w g t cs)(o:Obj):jF (w.alloc o) g t cs:=(Below.heap_alloc w o g h.lt).trans h
theorem jF.put(h:jF w g t cs)(i:Nat)(u:Value):jF (w.setCell ⟨g,i,none⟩ u) g t (cs.setIfInBounds i u):=heap_setCell_same w g i cs t u h
theorem jF.xF(h:jF w g t cs){p:Addr}(d:g≠p.block)(u:Value):jF (w.setCell p u) g t cs:=(heap_setCell_other w p g u d).trans h
theorem jF.xC(h:jF w g t cs)(i:jH F w w')(d:g ∉ F):jF w' g t cs:=(i.block g h.lt d).trans h
theorem jF.xi{i:Nat}{j:TypeId}{k:Array Value}(h:jF w g t cs)(d:jF w i j k)(l:t≠j):g≠i:=by
 rintro rfl;unfold jF at h d;rw[h]at d;injection d with d;injection d with _ ht;exact l ht
end
section
variable {F:List Nat}{w w':World}{base:Nat}{e:TypeId}{size n:Nat}{v:Value}{xs:List Value}
theorem bw(h:w.ownsRow base e size v n xs)(s:jH F w w')(hF:∀b,v.ownBlock=some b->b ∉ F):w'.ownsRow base e size v n xs:=by
 refine⟨h.1, ?_⟩;rcases h.2 with j|⟨g,d,i,rfl,p,q,k,l,m,o⟩
 ·exact .inl j
 ·have r:g<w.1.size:=(h.lt g rfl).2;exact .inr ⟨g,d,i,rfl,p,(s.block g r (hF g rfl)).trans q,k,l,m,o⟩
theorem vu(h:w.ownsRow base e size v n xs){p:Addr}(j:v.ownBlock≠some p.block)(u:Value):(w.setCell p u).ownsRow base e size v n xs :=
 bw h (jH.setCell (F:=[p.block]) (jH.refl _ w) (qX (by simp)) u) (fun b d i=>j (by rw[d];simpa using i))
theorem vJ{g:Nat}{t:TypeId}{cs:Array Value}(h:w.ownsRow base e size v n xs)(k:jF w g t cs)(m:e≠t):v.ownBlock≠some g:=by
 rcases h.2 with⟨rfl,_⟩|⟨d,o,i,rfl,_,l,_⟩
 ·simp[Value.ownBlock]
 ·intro j;have:d=g:=by simpa[Value.ownBlock] using j
  subst this;exact jF.xi (show jF w d e i from l) k m rfl
theorem fT{base':Nat}{d:TypeId}{r q:Nat}{k:Value}{s:List Value}(h:w.ownsRow base e size v n xs)(m:w.ownsRow base' d r k q s)(p:e≠d):∀b,k.ownBlock=some b->v.ownBlock≠some b:=by
 intro b j;rcases m.2 with⟨rfl,_⟩|⟨i,u,l,rfl,_,o,_⟩
 ·simp[Value.ownBlock]at j
 ·obtain rfl:i=b:=by simpa[Value.ownBlock] using j
  exact vJ h (show jF w i d l from o) p
theorem v8(h:w.ownsRow base e size v n xs):∃A d,v=.slice A n d/\n<=d/\d<=maxLen/\(0<n->∃b,A=some ⟨b,0,none⟩/\base<=b/\b<w.1.size)/\(A=none->n=0/\d=0):=by
 rcases h.2 with⟨rfl,rfl⟩|⟨g,d,l,rfl,k,p,i,j,m,o⟩
 ·exact⟨none,0,rfl,qK _,qI _,fun h=>absurd h (by omega),fun _=>⟨rfl,rfl⟩⟩
 ·exact⟨_,d,rfl,i,j,fun _=>⟨g,rfl,k,(h.lt g rfl).2⟩,fun h=>by cases h⟩
end
def gI(w:World)(size:Nat)(v:Value)(m:Nat)(d:List Value):Prop :=
 d.length=m*size/\((∃c,v=.slice none 0 c/\m=0)∨∃a c,v=.slice (some a) m c/\∀j u,d[j]? = some u->w.cell? (a.add j)=some u)
section
variable {P:Program}
theorem cr(w:World)(base:Nat)(t e:TypeId)(i:TypeInfo)(z:Value)(size bytes:Nat)(ty:TypeId)(o:P.underlying t=some (.slice e))(hi:P.info? e=some i)(O:i.zero=some z)
  (M:i.size=size) (D:i.bytes=bytes) (Q:z.cells.size=size) (N:0<size)
  (v:Value) (n:Nat) (xs:List Value) (k:w.ownsRow base e size v n xs) (p:Value) (m:Nat) (j:List Value) (l:gI w size p m j) (A:∀u∈j,u.oneCell'=true)
  (B:n+m<=maxLen) (I:(n+m)*bytes<=140737488355328) (C:base<=w.1.size):
  ∃d w',(Builtin.append_ #[t,t] ty #[v,p]).run P w=.ok d w'/\w'.ownsRow base e size d (n+m) (xs++j)/\w.grownBy w' v.ownBlock/\(d.ownBlock=v.ownBlock∨d.ownBlock=some w.1.size):=by
 rcases l.2 with⟨c,rfl,rfl⟩|⟨a,c,rfl,J⟩
 ·have K:j=[]:=List.eq_nil_of_length_eq_zero (by simpa using l.1);subst K;refine⟨v,w, ?_,by simpa using k,⟨rfl,rfl,rfl,qK _,fun _ _ _=>rfl⟩,qX rfl⟩;rcases k.2 with⟨rfl,rfl⟩|⟨g,R,S,rfl,_,_,L,_⟩
  ·simp[Builtin.append_,run_underlying o,sizeOf,typeInfo,hi,Builtin.lenOf,Builtin.firstCells]
  ·simp[Builtin.append_,run_underlying o,sizeOf,typeInfo,hi,Builtin.lenOf,Builtin.firstCells,L,storeCells]
 ·obtain⟨d,w',q,r,s,_,y⟩:=run_append_own_at (P:=P) w base t ty e i z size bytes o hi O M D Q N v n xs k a m c j l.1 J A B I C;exact⟨d,w',q,r,s,y⟩
theorem Qm{d:Array Oper}{o:Oper}{a:Act}{w w':World}{K:Act->World->Prop}{Q:Exit->Act->World->Prop}{E:Prop}{j k i:Value}(l:o.guard=none)(s x:Operand)(t:TypeId)
  (m:o.op=.call { callee:=.builtin .append,args:=#[s,x],argTypes:=#[t,t] }) (q:a.eval s=j) (r:a.eval x=k)
  (p:(Builtin.append_ #[t,t] o.type #[j,k]).run P w=.ok i w') (h:K (a.put o.dst i) w'):if Region.wanted o (yielded d a.tmps)=true then Oper.wp P o a w K Q else E:=by
 have hw:Region.wanted o (yielded d a.tmps)=true:=by simp[Region.wanted,l]
 rw[qV hw];unfold Oper.wp execOp;simp only[m,resolve,invoke,builtin,Sem.run_bind,Sem.run_pure,Result.andThen_ok,List.map_toArray,List.map_cons,List.map_nil,q,r,p];exact h
end
theorem yK{P:Program}{w w':World}{d:Array Oper}{i:List Oper}{o:Oper}{a:Act}{Q:Exit->Act->World->Prop}{l m k:Value}{t j:TypeId}(q:o.guard=none)(s x:Operand)
  (r:o.op=.call { callee:=.builtin .append,args:=#[s,x],argTypes:=#[t,j] }) (y:a.eval s=l) (z:a.eval x=m) (u:(Builtin.append_ #[t,j] o.type #[l,m]).run P w=.ok k w') (h:wpList P d Q i (a.put o.dst k) w'):wpList P d Q (o::i) a w:=by
 refine wpList_plain q fun A p=>?_
 unfold Oper.wp execOp;simp only[r,resolve,invoke,builtin,Sem.run_bind,Sem.run_pure,Result.andThen_ok,List.map_toArray,List.map_cons,List.map_nil,y,z,u];exact p _ _ h
end
section
open Go.RowKit
def RowB(w:World)(b:Nat)(n:Nat)(f:Nat->Value):Prop :=
 ∃(c:Array Value) (t:TypeId) (d:Nat × Nat),w.heap[b]? = some (.cells c t d)/\n<=c.size/\(d=(0,0)∨n<=d.1)/\∀i,i<n->c[i]? = some (f i)
namespace RowB
variable {w:World}{b n:Nat}{f g:Nat -> Value}
theorem cell(h:RowB w b n f){i:Nat}(hi:i<n):w.cell? ⟨b,i,none⟩=some (f i):=by
 obtain⟨c,t,k,d,_,_,j⟩:=h;simp[World.cell?,d,j i hi]
theorem frozen(h:RowB w b n f){i:Nat}(hi:i<n):w.frozen? ⟨b,i,none⟩=false:=by
 obtain⟨c,t,⟨k,m⟩,j,_,d,_⟩:=h;rcases d with d|d
 ·cases d;simp[World.frozen?,j]
 ·have l:n<=k:=d;simp[World.frozen?,j];omega
theorem lt(h:RowB w b n f):b<w.1.size:=by
 obtain⟨c,t,j,d,_⟩:=h;obtain⟨i,_⟩:=ql.1 d;exact i
theorem congr(h:RowB w b n f)(e:∀i,i<n->f i=g i):RowB w b n g:=by
 obtain⟨c,t,j,k,o,m,l⟩:=h;exact⟨c,t,j,k,o,m,fun i d=>by rw[l i d,e i d]⟩
theorem of_block{w':World}(h:RowB w b n f)(e:w'.heap[b]? = w.heap[b]?):RowB w' b n f:=by
 obtain⟨c,t,d,i,l,k,j⟩:=h;exact⟨c,t,d,e.trans i,l,k,j⟩
theorem below{w':World}(h:RowB w b n f)(d:Below w.1.size w w'):RowB w' b n f:=h.of_block (d.block _ h.lt)
theorem set(h:RowB w b n f)(i:Nat)(v:Value):RowB (w.setCell ⟨b,i,none⟩ v) b n (fun j=>if j=i then v else f j):=by
 obtain⟨c,t,d,k,p,m,l⟩:=h;refine⟨c.setIfInBounds i v,t,d, ?_,by simpa using p,m,fun j o=>?_⟩
 ·simp[World.setCell,Array.getElem?_modify,k]
 ·rw[Array.getElem?_setIfInBounds];by_cases e:j=i
  ·subst e;simp[show j<c.size by omega]
  ·rw[qZ (fun h=>e h.symm)];show c[j]? = some (if j=i then v else f j);rw[qZ e];exact l j o
end RowB
def lH(l:List UInt8)(j:Nat):Value:=.int .u8 ((l.getD j 0).toNat:Int)
theorem KJ{w:World}{b n:Nat}{l:List UInt8}(h:RowB w b n (lH l))(k:l.length=n)(d:Nat):(convert 154 9 (.slice (some ⟨b,0,none⟩) n d)).run prog w=.ok (.string ⟨l.toArray⟩) w:=by
 have h:=run_convert_bytes_back (P:=prog) w 154 9 5 ⟨b,0,none⟩ d l Tryz.underlying154 Tryz.underlying5 Tryz.underlying9
  (fun j i=>by
   have e:(⟨b,0,none⟩:Addr).add j=⟨b,j,none⟩:=(by simp[Addr.add];omega);rw[e,h.cell (by omega)];unfold lH;rw[qj,qD i];rfl)
 rw[k]at h;exact h
end
section
open Go.RowKit
def kF(w:World)(v:Value)(l:List Int):Prop :=
 (l=[]/\∃a c,v=.slice a 0 c)∨∃b off d,v=.slice (some ⟨b,off,none⟩) l.length d/\l.length<=d/\d<=maxLen/\b<w.1.size/\∀i x,l[i]? = some x->w.cell? ⟨b,off+i,none⟩=some (.int .i64 x)
theorem kF.cell{w:World}{v:Value}{l:List Int}(h:kF w v l):∃A off d,v=.slice A l.length d/\l.length<=maxLen/\∀i x,l[i]? = some x->∃b,A=some ⟨b,off,none⟩/\w.cell? ⟨b,off+i,none⟩=some (.int .i64 x):=by
 rcases h with⟨rfl,a,c,rfl⟩|⟨b,off,d,j,o,p,q,k⟩
 ·exact⟨a,0,c,rfl,qI _,fun i x h=>by simp at h⟩
 ·exact⟨some ⟨b,off,none⟩,off,d,j,by omega,fun i x m=>⟨b,rfl,k i x m⟩⟩
theorem kF.below{w w':World}{v:Value}{l:List Int}{B:Nat}(h:kF w v l)(j:Below B w w')(r:w.1.size<=B):kF w' v l:=by
 rcases h with h|⟨b,off,k,rfl,m,o,d,q⟩
 ·exact qX h
 ·exact qY ⟨b,off,k,rfl,m,o,qS d j.size,fun i x s=>(j.cell (p:=⟨b,off+i,none⟩) (qS d r)).trans (q i x s)⟩
theorem sF: (prog.info? 3).map (fun i=>(i.zero,i.size,i.bytes))=some (some (.int .i64 0),1,8):=by kernel_rfl
end
section
open Go.ChangeShapes Go.WideShapes Go.ChangeAt Go.RowKit Go.Deep
structure jC where
 h:Nat
 v:Int
 p:Int
def dw(x:jC):List Value:=[.int .u64 (x.h:Nat),.int .i64 x.v,.int .i64 x.p]
abbrev kv(x:jC):Value:=.agg #[.int .u64 (x.h:Nat),x.v,x.p]
structure kz(x:jC):Prop where
 h:x.h<18446744073709551616
 v0:-9223372036854775808<=x.v
 v1:x.v<=9223372036854775807
 p0:-9223372036854775808<=x.p
 p1:x.p<=9223372036854775807
def kC(w:World)(v:Value)(l:List jC):Prop :=
 (l=[]/\∃a c,v=.slice a 0 c)∨∃b off d,v=.slice (some ⟨b,off,none⟩) l.length d/\l.length<=d/\d<=maxLen/\b<w.1.size /\
  ∀i x,l[i]? = some x->∀j u,(dw x)[j]? = some u->w.cell? ⟨b,off+(i*3+j),none⟩=some u
theorem kC.below{w w':World}{v:Value}{l:List jC}{B:Nat}(h:kC w v l)(d:Below B w w')(o:w.1.size<=B):kC w' v l:=by
 rcases h with h|⟨b,off,m,z,r,s,k,q⟩
 ·exact qX h
 ·exact qY ⟨b,off,m,z,r,s,qS k d.size,fun i x A j u y=>(d.cell (p:=⟨b,off+(i*3+j),none⟩) (qS k o)).trans (q i x A j u y)⟩
theorem Qn: laidOutB prog=true:=by kernel_rfl
end
section
theorem Df{a b:Tw}(h:a=b):(a.toList != b.toList)=false/\(a.toList==b.toList)=true/\(!(a.toList==b.toList))=false:=by subst h;simp
theorem Dh{a b:Tw}(h:¬a=b):(a.toList != b.toList)=true/\(a.toList==b.toList)=false/\(!(a.toList==b.toList))=true:=by
 have:¬a.toList=b.toList:=fun x=>by
  rw[Lib.toList_data,Lib.toList_data]at x;exact h (qi (Array.toList_inj.1 x))
 simpa using this
end
section
open Go.RowKit
def cI(s p:Tw):Bool:=decide (p.size<=s.size/\s.extract 0 p.size=p)
theorem Dl(s p:Tw)(w:World)(j:s.size<=maxLen)(i:p.size<=maxLen):
  Calls prog 208 #[s,p] w (X0 (.bool (cI s p)) w):=by
 unfold maxLen at j i;unfold cI;by_cases h:p.size<=s.size
 ·have k:(p.size:Int)<=(s.size:Int):=by omega
  by_cases d:s.extract 0 p.size=p
  ·rw[qB ⟨h,d⟩];obtain⟨l,m,o⟩:=Df d;clear d;go_enter func208,ntmps208;go_wp2;go_ret;exact⟨rfl,rfl⟩
  ·rw[qA (fun h=>d h.2)];obtain⟨l,m,o⟩:=Dh d;clear d;go_enter func208,ntmps208;go_wp2;go_ret;exact⟨rfl,rfl⟩
 ·rw[qA (fun q=>h q.1)];have k:decide ((p.size:Int)<=(s.size:Int))=false:=qA (by omega);go_enter func208,ntmps208;go_wp2;go_ret;exact⟨rfl,rfl⟩
theorem Qp(s p:Tw)(w:World)(i:s.size<=maxLen)(d:p.size<=maxLen):
  Calls prog 153 #[s,p] w (X0 (.bool (cI s p)) w):=by
 have H:=qQ (Dl s p w i d);go_enter func153,ntmps153;go_wp2_with fail;refine(H.out).mono ?_;rintro e j⟨rfl,rfl⟩;go_wp2;go_ret;exact⟨rfl,rfl⟩
end
section
abbrev LvL:= List (List Int)
def cw(L:LvL):Prop:=L.length<=5/\L.flatten.length<=40/\(∀x∈L.flatten,0<=x)/\L.flatten.Nodup
instance (L : LvL):Decidable (cw L) := by unfold cw; infer_instance
def yR(L:LvL):Bool:=decide (cw L)
def pV(L:LvL)(k:Nat):LvL:=L.take k++List.replicate (5-k) []
def ke(L:LvL):LvL:=pV L L.length
def vi(L:LvL):Nat->Nat
 | 0=>0
 | n+1=>if L.getD n []=[] then vi L n else n+1
def kO(L:LvL):LvL:=L.take (vi L L.length)
def ud(L:LvL)(k:Nat)(n:Int):LvL:=L.set k (L.getD k []++[n])
def vo(L:LvL)(n:Int):Int:=if yR L=false∨n<0∨n∈L.flatten then 2 else if L.flatten.length=40 then 60 else 0
def kI(L:LvL)(n:Int):LvL:=if vo L n=0 then kO (ud (ke L) 0 n) else []
def vV(L:LvL)(k:Int):Int:=if yR L=false∨k<0∨4<k then 2 else if (ke L).getD k.toNat []=[] then 4 else 0
def kU(L:LvL)(k:Int):List Int:=if vV L k=0 then(ke L).getD k.toNat [] else []
def toL(k:Nat):Nat:=if k<4 then k+1 else 4
def yA(L:LvL)(k n:Int):Int:=if vV L k≠0 then vV L k else if n<0∨n∈L.flatten then 2 else 0
def kq(L:LvL)(k n:Int):LvL:=if yA L k n=0 then kO (ud ((ke L).set k.toNat []) (toL k.toNat) n) else []
theorem Dm{L:LvL}{k:Nat}(d:k<=L.length)(h:L.length<=5):(pV L k).length=5:=by
 unfold pV;rw[qN,qT,List.length_replicate];omega
theorem pY{L:LvL}(h:L.length<=5):(ke L).length=5:=Dm (qK _) h
theorem Dn(n:Nat):(List.replicate n ([]:List Int)).flatten=[]:=by
 induction n with
 | zero=>rfl
 | succ n d=>rw[List.replicate_succ,List.flatten_cons,d];rfl
theorem nR(L:LvL):(ke L).flatten=L.flatten:=by
 unfold ke pV;rw[List.take_length,List.flatten_append,Dn,List.append_nil]
theorem lI(L:LvL)(k:Nat):(ke L).getD k []=L.getD k []:=by
 unfold ke pV;rw[List.take_length,qj,qj];rcases qh k L.length with h|h
 ·rw[List.getElem?_append_left h]
 ·rw[List.getElem?_append_right h,xX h];rcases qh (k-L.length) (5-L.length) with d|d
  ·rw[qD (by rw[List.length_replicate];exact d),List.getElem_replicate];rfl
  ·rw[xX (by rw[List.length_replicate];exact d)]
theorem Qr(L:LvL):∀n,vi L n<=n
 | 0=>qK _
 | n+1=>by
   unfold vi;split
   ·exact Nat.le_succ_of_le (Qr L n)
   ·exact qK _
theorem KK(L:LvL):∀n,n<=L.length->(L.take (vi L n)).flatten=(L.take n).flatten
 | 0,_=>rfl
 | n+1,h=>by
   unfold vi;split
   ·rename_i e;rw[KK L n (by omega),qw,qD (by omega),List.flatten_append];rw[qj,qD (by omega)]at e;have d:L[n]=[]:=e;rw[d];simp
   ·rfl
theorem pU(L:LvL):(kO L).flatten=L.flatten:=by
 unfold kO;rw[KK L _ (qK _),List.take_length]
theorem Qs(L:LvL):(kO L).length<=L.length:=by unfold kO;rw[qT];omega
theorem Qt(L:LvL)(k:Nat)(n:Int):(ud L k n).length=L.length:=List.length_set
theorem sH{L:LvL}{k:Nat}(n:Int)(h:k<L.length):(ud L k n).flatten.Perm (n::L.flatten):=by
 unfold ud;rw[List.set_eq_take_append_cons_drop,qV h,qj,qD h]
 have e:L.flatten=(L.take k).flatten++(L[k]++(L.drop (k+1)).flatten):=by
  conv=>lhs;rw[<-qe k L,List.flatten_append,xJ h,List.flatten_cons]
 rw[e,List.flatten_append,List.flatten_cons];show((L.take k).flatten++((L[k]++[n])++(L.drop (k+1)).flatten)).Perm _;have d:(L.take k).flatten++((L[k]++[n])++(L.drop (k+1)).flatten)=((L.take k).flatten++L[k])++n::(L.drop (k+1)).flatten:=by simp
 rw[d];refine List.perm_middle.trans ?_;rw[qn]
theorem Dp{L:LvL}{k:Nat}(h:k<L.length):(L.set k []).flatten.Sublist L.flatten/\(L.set k []).flatten.length+(L.getD k []).length=L.flatten.length:=by
 rw[List.set_eq_take_append_cons_drop,qV h,qj,qD h]
 have e:L.flatten=(L.take k).flatten++(L[k]++(L.drop (k+1)).flatten):=by
  conv=>lhs;rw[<-qe k L,List.flatten_append,xJ h,List.flatten_cons]
 rw[e,List.flatten_append,List.flatten_cons,List.nil_append];refine⟨List.Sublist.append_left (List.sublist_append_right _ _) _, ?_⟩;simp only[List.length_append,Option.getD_some];omega
theorem KV(k:Nat):toL k<5:=by unfold toL;split<;>omega
theorem KY{L:LvL}{n:Int}(h:vo L n=0):cw (kI L n)/\(kI L n).flatten.length=L.flatten.length+1/\∀x∈(kI L n).flatten,x=n∨x∈L.flatten:=by
 have i:=h;unfold vo at i;split at i
 ·cases i
 ·rename_i c;split at i
  ·cases i
  ·rename_i c2;have j:cw L:=of_decide_eq_true (by cases o:yR L with|true=>exact o|false=>exact absurd (qX o) c);have r:¬n<0:=fun e=>c (qY (qX e))
   have p:n ∉ L.flatten:=fun e=>c (qY (qY e))
   unfold kI;rw[qV h];have q:=pY j.1;have d:=sH n (L:=ke L) (k:=0) (by omega);rw[nR]at d;rw[<-pU (ud (ke L) 0 n)]at d;have m:=d.length_eq;rw[qv]at m;refine⟨⟨?_, ?_,fun x l=>?_,d.nodup_iff.2 (List.nodup_cons.2 ⟨p,j.2.2.2⟩)⟩,m,fun x l=>?_⟩
   ·have:=Qs (ud (ke L) 0 n);rw[Qt]at this;omega
   ·have:=j.2.1;omega
   ·rcases qL.1 (d.mem_iff.1 l) with e|e
    ·omega
    ·exact j.2.2.1 x e
   ·exact qL.1 (d.mem_iff.1 l)
theorem pG{L:LvL}{k:Int}(h:vV L k=0):cw L/\0<=k/\k<=4/\kU L k=L.getD k.toNat []/\0<(kU L k).length:=by
 have d:=h;unfold vV at d;split at d
 ·cases d
 ·rename_i c;split at d
  ·cases d
  ·rename_i c2;have e:kU L k=(ke L).getD k.toNat []:=(by unfold kU;rw[qV h]);refine⟨of_decide_eq_true (by cases i:yR L with|true=>exact i|false=>exact absurd (qX i) c), ?_, ?_,by rw[e,lI],by rw[e];exact List.length_pos_iff.2 c2⟩
   ·exact Int.not_lt.1 fun e=>c (qY (qX e))
   ·exact Int.not_lt.1 fun e=>c (qY (qY e))
theorem KU{L:LvL}{k n:Int}(h:yA L k n=0):cw (kq L k n)/\(kq L k n).flatten.length+(kU L k).length=L.flatten.length+1/\∀x∈(kq L k n).flatten,x=n∨x∈L.flatten:=by
 have d:=h;unfold yA at d;split at d
 ·rename_i c;exact absurd d c
 ·rename_i c;split at d
  ·cases d
  ·rename_i c2;obtain⟨l,z,A,r,-⟩:=pG (L:=L) (k:=k) (by omega);have u:¬n<0:=fun e=>c2 (qX e)
   have q:n ∉ L.flatten:=fun e=>c2 (qY e)
   unfold kq;rw[qV h];have o:=pY l.1;obtain⟨j,s⟩:=Dp (L:=ke L) (k:=k.toNat) (by omega);rw[lI,<-r,nR]at s;rw[nR]at j;have i:=sH n (L:=(ke L).set k.toNat []) (k:=toL k.toNat) (by rw[List.length_set,o];exact KV _);rw[<-pU (ud ((ke L).set k.toNat []) (toL k.toNat) n)]at i;have p:=i.length_eq;rw[qv]at p;have y:0<(kU L k).length:=(pG (L:=L) (k:=k) (by omega)).2.2.2.2;refine⟨⟨?_, ?_,fun x m=>?_,i.nodup_iff.2 (List.nodup_cons.2 ⟨fun e=>q (j.subset e),j.nodup l.2.2.2⟩)⟩,by omega,fun x m=>?_⟩
   ·have:=Qs (ud ((ke L).set k.toNat []) (toL k.toNat) n);rw[Qt,List.length_set]at this;omega
   ·have:=l.2.1;omega
   ·rcases qL.1 (i.mem_iff.1 m) with e|e
    ·omega
    ·exact l.2.2.1 x (j.subset e)
   ·rcases qL.1 (i.mem_iff.1 m) with e|e
    ·exact qX e
    ·exact qY (j.subset e)
def mM(s:List Int)(m:Nat):Prop:=∀i,i<m->0<=s.getD i 0/\(0<i->s.getD i 0≠s.getD (i-1) 0)
def yS(l:List Int):List Int:=l.mergeSort fun x y=>decide (x<=y)
theorem pW(l:List Int):(yS l).length=l.length:=(List.mergeSort_perm l _).length_eq
theorem Dr(l:List Int):∀i j:Nat,(hi:i<(yS l).length)->(d:j<(yS l).length)->i<j->(yS l)[i]<=(yS l)[j]:=by
 have h:=List.pairwise_mergeSort (le:=fun x y:Int=>decide (x<=y)) (fun a b c m o=>by simp at*;omega) (fun a b=>by simp;omega) l;intro i j hi d k;exact of_decide_eq_true (xY.1 h i j hi d k)
theorem Dt(l:List Int):mM (yS l) (yS l).length↔(∀x∈l,0<=x)/\l.Nodup:=by
 have m:(yS l).Perm l:=List.mergeSort_perm l _;have q:=Dr l;constructor
 ·intro h;refine⟨fun x r=>?_,m.nodup_iff.1 ?_⟩
  ·obtain⟨i,d,rfl⟩:=List.getElem_of_mem (m.mem_iff.2 r);have:=(h i d).1
   rwa [qj,qD d]at this
  ·refine xY.2 fun i j d o z=>?_
   have k:=(h j o).2 (by omega);rw[qj,qD o,qj,qD (show j-1<(yS l).length by omega)]at k;have u:(yS l)[j]≠(yS l)[j-1]:=k;have p:=q (j-1) j (by omega) o (by omega)
   have y:(yS l)[i]<=(yS l)[j-1]:=by
    rcases qh i (j-1) with c|c
    ·exact q i (j-1) d (by omega) c
    ·have:i=j-1:=(by omega);subst this;exact Int.le_refl _
   omega
 ·rintro ⟨k,p⟩ i d;refine⟨?_,fun s=>?_⟩
  ·rw[qj,qD d];exact k _ (m.mem_iff.1 (List.getElem_mem d))
  ·rw[qj,qD d,qj,qD (show i-1<(yS l).length by omega)];have:=xY.1 (m.nodup_iff.2 p) (i-1) i (by omega) d (by omega);exact fun e=>this e.symm
end
section
open Go.RowKit Go.Shelf
def KW(K:Nat)(w:World)(e:Ending)(w':World):Prop:=e=.returned (.int .i64 (K:Nat))/\Below w.1.size w w'
theorem Da(f:FuncId)(y z:Value)(n K:Nat)(w:World)(V:n<=1000000)(I:K<=n)(D:Enters prog f)
  (s:∀(i:Nat) (W:World),i<n->Below w.1.size w W->Calls prog f #[i,y,z] W fun e C=>e=.returned (.bool (decide (K<=i)))/\Below W.1.size W C):
  Calls prog 205 #[n,.func (.func f) #[] #[y,z]] w (KW K w):=by
 have A:=qQ s;unfold Enters at D;clear s;go_enter func205,ntmps205;go_wp2;go_loopw [5,6] (fun o l wr=>∃a b:Nat,a<=K/\K<=b/\b<=n/\o=.int .i64 a/\l=.int .i64 b/\Below w.1.size w wr) (fun o l _=>(intOf l).toNat-(intOf o).toNat)
 case atStart=>exact⟨0,n,qI _,I,qK _,rfl,rfl,qU _ _⟩
 case round =>
  obtain⟨a,b,J,N,L,rfl,rfl,j⟩:=hrel;by_cases T:a<b
  ·obtain⟨d,u⟩:∃d,d=(a+b)/2:=⟨_,rfl⟩
   have Q:a<=d:=(by omega);have R:d<b:=(by omega);have X:(a:Int)<(b:Int):=(by omega);have U:((a:Int)+(b:Int))/2=(d:Int):=(by omega);have M:d<n:=(by omega);have S:(d:Int)<=1000000:=(by omega);have k:=A.out d wr M j;cases m:decide (K<=d)
   all_goals
    rw[m]at k;have B:=qQ k;have p:=qQ m;have O:=qQ u;clear m k u;go_wp2_with fail;refine B.out.mono ?_;rintro e Y⟨rfl,q⟩;have r:=bj j q;clear j q;go_wp2;go_roundw
    case rel =>
     first
     | exact⟨d+1,b,by have:=of_decide_eq_false p.out;omega,N,L,by go_num,rfl,r⟩
     | exact⟨a,d,J,of_decide_eq_true p.out,by omega,rfl,by go_num,r⟩
    case measure=>simp[intOf];omega
  ·obtain rfl:a=b:=(by omega);obtain rfl:a=K:=(by omega);go_wp2;go_ret;exact⟨rfl,j⟩
end
section
open Go.ChangeShapes Go.WideShapes Go.ChangeAt Go.RowKit Go.Deep
def lL(x:Int):Value:=.int .i64 x
theorem kF.form{w:World}{v:Value}{l:List Int}(h:kF w v l):∃A off d,v=.slice A l.length d/\l.length<=maxLen /\
  ∀i x,l[i]? = some x->∃b,A=some ⟨b,off,none⟩/\b<w.1.size/\w.cell? ⟨b,off+i,none⟩=some (.int .i64 x):=by
 rcases h with⟨rfl,a,c,rfl⟩|⟨b,off,d,rfl,o,p,j,k⟩
 ·exact⟨a,0,c,rfl,qI _,fun i x h=>by simp at h⟩
 ·exact⟨some ⟨b,off,none⟩,off,d,rfl,by omega,fun i x m=>⟨b,rfl,j,k i x m⟩⟩
theorem KA{l:List Int}:∀u∈l.map lL,u.oneCell'=true:=by
 intro u d;obtain⟨x,-,rfl⟩:=qP.1 d;rfl
abbrev jd(w:World)(base:Nat)(v:Value)(l:List Int):Prop:=w.ownsRow base 3 1 v l.length (l.map lL)
theorem jd.nil(w:World)(base:Nat):jd w base (.slice none 0 0) []:=World.ownsRow_nil _ _ _ _
theorem jd.xE{w:World}{base:Nat}{v:Value}{l:List Int}(h:jd w base v l):kF w v l:=by
 have j:=h;rcases h.2 with⟨d,o⟩|⟨g,m,s,d,u,p,r,q,z,A⟩
 ·exact qX ⟨xK.1 o,none,0,d⟩
 ·refine qY ⟨g,0,m,d,r,q,(ql.1 p).1,fun i x k=>?_⟩;have y:i<l.length:=(qO.1 k).1;rw[d]at j;rw[qa];refine(j.cellAt i (by omega)).trans ?_;show(l.map lL)[i]? = _;rw[qu,k];rfl
theorem jd.below{w w':World}{base B:Nat}{v:Value}{l:List Int}(h:jd w base v l)(o:Below B w w')(m:w.1.size<=B):jd w' base v l:=by
 refine⟨h.1, ?_⟩;rcases h.2 with k|⟨g,i,j,s,p,d,r⟩
 ·exact qX k
 ·obtain⟨q,_⟩:=ql.1 d;exact qY ⟨g,i,j,s,p,(o.block g (qS q m)).trans d,r⟩
theorem jd.block{w:World}{base:Nat}{v:Value}{l:List Int}(h:jd w base v l):∀k,v.ownBlock=some k->base<=k/\k<w.1.size:=fun k d=>h.lt k d
theorem jd.down{w:World}{base base':Nat}{v:Value}{l:List Int}(h:jd w base v l)(k:base'<=base):jd w base' v l:=by
 refine⟨h.1, ?_⟩;rcases h.2 with j|⟨g,d,i,o,m,r⟩
 ·exact qX j
 ·exact qY ⟨g,d,i,o,qR k m,r⟩
theorem kF.src{w:World}{v:Value}{l:List Int}(h:kF w v l):gI w 1 v l.length (l.map lL):=by
 refine⟨by rw[qz,Nat.mul_one], ?_⟩;rcases h with⟨rfl,a,c,rfl⟩|⟨b,off,i,rfl,p,q,r,m⟩
 ·cases a with
  | none=>exact qX ⟨c,rfl,rfl⟩
  | some a=>exact qY ⟨a,c,rfl,fun j u d=>by cases d⟩
 ·refine qY ⟨⟨b,off,none⟩,i,rfl,fun j u d=>?_⟩;rw[qu]at d;obtain⟨x,o,rfl⟩:=xG.1 d;have k:(⟨b,off,none⟩:Addr).add j=⟨b,off+j,none⟩:=by unfold Addr.add;split<;>simp_all
  rw[k];exact m j x o
theorem KB(w:World)(x:Int):kF (w.alloc (.cells #[x] 3)) (.slice (some ⟨w.1.size,0,none⟩) 1 1) [x]:=by
 refine qY ⟨w.1.size,0,1,rfl,qK _,by unfold maxLen;omega,by simp,fun i y d=>?_⟩
 match i,d with
 | 0,d =>
   obtain rfl:x=y:=(by simpa using d);simp
theorem Qa{w:World}{base:Nat}{d i:Value}{l m:List Int}(s:jd w base d l)(u:kF w i m)(D:l.length+m.length<=1000000)(q:base<=w.1.size)(ty:TypeId):
  ∃A c w',(Builtin.append_ #[37,37] ty #[d,i]).run prog w=.ok (.slice A (l.length+m.length) c) w'/\jd w' base (.slice A (l.length+m.length) c) (l++m)/\w.grownBy w' d.ownBlock/\((Value.slice A (l.length+m.length) c).ownBlock=d.ownBlock∨(Value.slice A (l.length+m.length) c).ownBlock=some w.1.size):=by
 obtain⟨C,r,y,z,B⟩:=info_parts sF;obtain⟨I,w',k,j,o,p⟩:=cr (P:=prog) w base 37 3 C _ 1 8 ty Tryz.underlying37 r y z B rfl (by decide) d l.length (l.map lL) s i m.length (m.map lL) u.src KA (by unfold maxLen;omega) (by omega) q;obtain⟨A,c,rfl,-,-,-⟩:=v8 j;refine⟨A,c,w',k, ?_,o,p⟩;unfold jd;rw[List.map_append,qN];exact j
theorem sI{B:Nat}{w w':World}{v:Value}(h:w.grownBy w' v.ownBlock)(i:B<=w.1.size)(d:∀k,v.ownBlock=some k->B<=k):Below B w w':=⟨h.os,h.tape,h.output,h.size,fun k j=>h.block k (by omega) (fun e=>by have:=d k e.symm;omega)⟩
theorem KC(A:Option Addr)(n c:Nat)(w:World):(binOp .eql 37 (.slice A n c) (.slice none 0 0)).run prog w=.ok (.bool A.isNone) w:=by
 have d:=run_equal_slice_nil (P:=prog) w 37 3 A n c Tryz.underlying37;simp only[binOp];simp[d]
def bQ(w:World)(l:List Int)(e:Ending)(w':World):Prop:=∃A c,e=.returned (.slice A l.length c)/\jd w' w.1.size (.slice A l.length c) l/\Below w.1.size w w'
theorem Qe(v:Value)(l:List Int)(w:World)(h:kF w v l)(z:l.length<=500000):Calls prog 105 #[v] w (bQ w l):=by
 obtain⟨A,off,r,rfl,-,-⟩:=h.form;cases A with
 | none =>
   have O:l=[]:=by
    rcases h with⟨e,_⟩|⟨b,S,R,e,_⟩
    ·exact e
    ·cases e
   subst O;have Q:=fun W=>KC none 0 r W
   clear h z;go_enter func105,ntmps105;go_wp2;go_ret;exact⟨none,0,rfl,jd.nil _ _,qU _ _⟩
 | some a =>
   have j:=(qU w.1.size w).alloc (qK _) (.cells #[] 3);have C:jd (w.alloc (.cells #[] 3)) w.1.size (.slice (some ⟨w.1.size,0,none⟩) 0 0) []:=World.ownsRow_made w #[] 0 (qK _) (qI _) rfl;have u:=h.below j (qK _);obtain⟨I,L,w',d,i,s,M⟩:=Qa C u (by simp;omega) (by simp) 37;have y:=j.trans (sI s (B:=w.1.size) (by simp) (fun k N=>by simp[Value.ownBlock]at N;omega));have K:=qQ y;rw[List.nil_append]at i;have D:([]:List Int).length+l.length=l.length:=(by simp);rw[D]at d i;have p:=qQ i;clear h z j C u i s M y D;obtain⟨m,o⟩:∃m,m=l.length:=⟨_,rfl⟩
   have q:=qQ o;rw[<-o]at d p ⊢;clear o;have J:=qQ d;have Q:=fun W=>KC (some a) m r W
   clear d;go_enter func105,ntmps105;go_wp2_with (first|(at_builtin;refine yK rfl _ _ rfl rfl rfl J.out ?_)|fail);go_ret;exact⟨I,L,by rw[<-q.out];rfl,by rw[<-q.out];exact p.out,K.out⟩
structure LvS where
 v:Value
 l:List Int
abbrev lvl(L:List LvS):List (List Int):=L.map LvS.l
abbrev cQ(L:List LvS):List Value:=L.map LvS.v
def fq(w:World)(L:List LvS):Prop:=∀x∈L,kF w x.v x.l
def fQ(w:World)(v:Value)(L:List LvS):Prop :=
 (L=[]/\∃a c,v=.slice a 0 c)∨∃b off d,v=.slice (some ⟨b,off,none⟩) L.length d/\L.length<=d/\d<=maxLen/\b<w.1.size/\∀i x,L[i]? = some x->w.cell? ⟨b,off+i,none⟩=some x.v
def nS(w:World)(v:Value)(L:List LvS):Prop:=fQ w v L/\fq w L
theorem fq.below{w w':World}{L:List LvS}{B:Nat}(h:fq w L)(i:Below B w w')(d:w.1.size<=B):fq w' L:=fun x j=>(h x j).below i d
theorem fQ.below{w w':World}{v:Value}{L:List LvS}{B:Nat}(h:fQ w v L)(d:Below B w w')(l:w.1.size<=B):fQ w' v L:=by
 rcases h with h|⟨b,off,k,r,o,q,j,m⟩
 ·exact qX h
 ·exact qY ⟨b,off,k,r,o,q,qS j d.size,fun i x s=>(d.cell (p:=⟨b,off+i,none⟩) (qS j l)).trans (m i x s)⟩
theorem nS.below{w w':World}{v:Value}{L:List LvS}{B:Nat}(h:nS w v L)(i:Below B w w')(d:w.1.size<=B):nS w' v L:=⟨h.1.below i d,h.2.below i d⟩
theorem fQ.form{w:World}{v:Value}{L:List LvS}(h:fQ w v L):∃A off d,v=.slice A L.length d/\L.length<=maxLen /\
  ∀i x,L[i]? = some x->∃b,A=some ⟨b,off,none⟩/\b<w.1.size/\w.cell? ⟨b,off+i,none⟩=some x.v:=by
 rcases h with⟨rfl,a,c,rfl⟩|⟨b,off,d,rfl,m,o,j,k⟩
 ·exact⟨a,0,c,rfl,qI _,fun i x h=>by simp at h⟩
 ·exact⟨some ⟨b,off,none⟩,off,d,rfl,by omega,fun i x l=>⟨b,rfl,j,k i x l⟩⟩
theorem fq.one{w:World}{L:List LvS}(h:fq w L):∀u∈cQ L,u.oneCell'=true:=by
 intro u d;obtain⟨x,i,rfl⟩:=qP.1 d;obtain⟨A,off,j,e,-,-⟩:=(h x i).form;rw[e];rfl
abbrev js(w:World)(base:Nat)(v:Value)(L:List LvS):Prop:=w.ownsRow base 37 1 v L.length (cQ L)
theorem js.nil(w:World)(base:Nat):js w base (.slice none 0 0) []:=World.ownsRow_nil _ _ _ _
theorem js.at_{w:World}{base:Nat}{v:Value}{L:List LvS}(h:js w base v L):fQ w v L:=by
 have j:=h;rcases h.2 with⟨d,m⟩|⟨g,l,r,d,s,o,q,p,y,z⟩
 ·exact qX ⟨xK.1 m,none,0,d⟩
 ·refine qY ⟨g,0,l,d,q,p,(ql.1 o).1,fun i x k=>?_⟩;have u:i<L.length:=(qO.1 k).1;rw[d]at j;rw[qa];refine(j.cellAt i (by omega)).trans ?_;show(L.map LvS.v)[i]? = _;rw[qu,k];rfl
theorem js.xE{w:World}{base:Nat}{v:Value}{L:List LvS}(h:js w base v L)(d:fq w L):nS w v L:=⟨h.at_,d⟩
theorem js.below{w w':World}{base B:Nat}{v:Value}{L:List LvS}(h:js w base v L)(m:Below B w w')(l:w.1.size<=B):js w' base v L:=by
 refine⟨h.1, ?_⟩;rcases h.2 with k|⟨g,i,j,q,o,d,r⟩
 ·exact qX k
 ·obtain⟨p,_⟩:=ql.1 d;exact qY ⟨g,i,j,q,o,(m.block g (qS p l)).trans d,r⟩
theorem js.block{w:World}{base:Nat}{v:Value}{L:List LvS}(h:js w base v L):∀k,v.ownBlock=some k->base<=k:=by
 intro k d;rcases h.2 with⟨rfl,_⟩|⟨g,j,l,rfl,i,_⟩
 ·cases d
 ·cases d;exact i
theorem js.down{w:World}{base base':Nat}{v:Value}{L:List LvS}(h:js w base v L)(k:base'<=base):js w base' v L:=by
 refine⟨h.1, ?_⟩;rcases h.2 with j|⟨g,d,i,m,l,r⟩
 ·exact qX j
 ·exact qY ⟨g,d,i,m,qR k l,r⟩
theorem js.some_{w:World}{base n c:Nat}{A:Option Addr}{L:List LvS}(h:js w base (.slice A n c) L)(o:0<L.length):∃g,A=some ⟨g,0,none⟩/\base<=g/\g<w.1.size/\n=L.length:=by
 rcases h.2 with⟨d,m⟩|⟨g,k,l,d,i,j,_⟩
 ·omega
 ·obtain⟨rfl,rfl,-⟩:=Value.slice.inj d;exact⟨g,rfl,i,(ql.1 j).1,rfl⟩
theorem js.cell{w:World}{base g n c i:Nat}{L:List LvS}{x:LvS}(h:js w base (.slice (some ⟨g,0,none⟩) n c) L)(j:n=L.length)(d:L[i]? = some x):w.cell? ⟨g,i,none⟩=some x.v/\w.frozen? ⟨g,i,none⟩=false:=by
 subst j;have k:i<L.length:=(qO.1 d).1;refine⟨(h.cellAt i (by omega)).trans ?_,h.frozenAt i⟩;show(L.map LvS.v)[i]? = _;rw[qu,d];rfl
theorem js.put{w:World}{base g n c i:Nat}{L:List LvS}(h:js w base (.slice (some ⟨g,0,none⟩) n c) L)(j:n=L.length)(x:LvS):js (w.setCell ⟨g,i,none⟩ x.v) base (.slice (some ⟨g,0,none⟩) n c) (L.set i x):=by
 subst j;have d:=(h.stored i x.v).1;unfold js cQ;rw[List.length_set,List.map_set];exact d
theorem KD: (prog.info? 37).map (fun i=>(i.zero,i.size,i.bytes))=some (some (.slice none 0 0),1,24):=by kernel_rfl
theorem fQ.src{w:World}{v:Value}{L:List LvS}(h:fQ w v L):gI w 1 v L.length (cQ L):=by
 refine⟨by unfold cQ;rw[qz,Nat.mul_one], ?_⟩;rcases h with⟨rfl,a,c,rfl⟩|⟨b,off,i,rfl,o,p,q,l⟩
 ·cases a with
  | none=>exact qX ⟨c,rfl,rfl⟩
  | some a=>exact qY ⟨a,c,rfl,fun j u d=>by cases d⟩
 ·refine qY ⟨⟨b,off,none⟩,i,rfl,fun j u d=>?_⟩;unfold cQ at d;rw[qu]at d;obtain⟨x,m,rfl⟩:=xG.1 d;have k:(⟨b,off,none⟩:Addr).add j=⟨b,off+j,none⟩:=by unfold Addr.add;split<;>simp_all
  rw[k];exact l j x m
theorem De{w:World}{base:Nat}{d i:Value}{L M:List LvS}(r:js w base d L)(s:fQ w i M)(o:∀u∈cQ M,u.oneCell'=true)(D:L.length+M.length<=1000000)(p:base<=w.1.size)(ty:TypeId):
  ∃A c w',(Builtin.append_ #[45,45] ty #[d,i]).run prog w=.ok (.slice A (L.length+M.length) c) w'/\js w' base (.slice A (L.length+M.length) c) (L++M)/\w.grownBy w' d.ownBlock/\((Value.slice A (L.length+M.length) c).ownBlock=d.ownBlock∨(Value.slice A (L.length+M.length) c).ownBlock=some w.1.size):=by
 obtain⟨C,q,y,z,B⟩:=info_parts KD;obtain⟨I,w',k,j,l,m⟩:=cr (P:=prog) w base 45 37 C _ 1 24 ty Tryz.underlying45 q y z B rfl (by decide) d L.length (cQ L) r i M.length (cQ M) s.src o (by unfold maxLen;omega) (by omega) p;obtain⟨A,c,rfl,-,-,-⟩:=v8 j;refine⟨A,c,w',k, ?_,l,m⟩;unfold js cQ;rw[List.map_append,qN];exact j
theorem KE: (37:TypeId)≠3:=by decide
theorem js.grown{w w':World}{base base':Nat}{u v:Value}{L:List LvS}{l:List Int}(h:js w base v L)(o:jd w base' u l)(i:w.grownBy w' u.ownBlock):js w' base v L :=
 bw h (F:=u.ownBlock.toList) (jH.grown (jH.refl _ w) i (fun k j=>qX (by rw[j];simp))) (fun b d m=>fT o h KE.symm b d (by simpa using m))
theorem jd.x9{w:World}{base base' g n c i:Nat}{v x:Value}{L:List LvS}{l:List Int}(h:jd w base v l)(j:js w base' (.slice (some ⟨g,0,none⟩) n c) L):jd (w.setCell ⟨g,i,none⟩ x) base v l :=
 vu h (fun d=>fT j h KE g d rfl) x
def gN(w:World)(base:Nat)(M:List LvS):Prop:=∀x∈M,jd w base x.v x.l
theorem gN.each{w:World}{base:Nat}{M:List LvS}(h:gN w base M):fq w M:=fun x d=>jd.xE (h x d)
theorem gN.below{w w':World}{base B:Nat}{M:List LvS}(h:gN w base M)(i:Below B w w')(d:w.1.size<=B):gN w' base M:=fun x j=>jd.below (h x j) i d
theorem gN.down{w:World}{base base':Nat}{M:List LvS}(h:gN w base M)(d:base'<=base):gN w base' M:=fun x i=>jd.down (h x i) d
theorem gN.take{w:World}{base:Nat}{M:List LvS}(h:gN w base M)(k:Nat):gN w base (M.take k):=fun x d=>h x (List.mem_of_mem_take d)
def pA(M:List LvS):Prop:=∀(i j:Nat) (x y:LvS),M[i]? = some x->M[j]? = some y->i≠j->∀g,x.v.ownBlock=some g->y.v.ownBlock≠some g
theorem pA.set{M:List LvS}{k:Nat}{x:LvS}(h:pA M)(p:∀g,x.v.ownBlock=some g->∀j y,j≠k->M[j]? = some y->y.v.ownBlock≠some g):pA (M.set k x):=by
 intro i j a b l d o g m;rw[List.getElem?_set]at l d;split at l
 ·rename_i e;subst e;split at l
  ·obtain rfl:x=a:=(by simpa using l);rw[qZ o]at d;exact p g m j b (fun e=>o e.symm) d
  ·cases l
 ·rename_i e;split at d
  ·rename_i q;subst q;split at d
   ·obtain rfl:x=b:=(by simpa using d);intro s;exact p g s i a (fun r=>e r.symm) l m
   ·cases d
  ·exact h i j a b l d o g m
theorem sL{L:List LvS}{k:Nat}{y:LvS}(h:L[k]? = some y):(lvl L)[k]? = some y.l:=by unfold lvl;rw[qu,h];rfl
theorem bX(L:List LvS):(lvl L).length=L.length:=qz _
theorem sM(L:List LvS)(i:Nat)(x:LvS):lvl (L.set i x)=(lvl L).set i x.l:=List.map_set
theorem KF(L:List LvS)(k:Nat):lvl (L.take k)=(lvl L).take k:=List.map_take
theorem Qi{L:List LvS}{k:Nat}{y:LvS}(h:L[k]? = some y):(lvl L).getD k []=y.l:=by rw[qj,sL h];rfl
def vw(w:World)(base:Nat)(v:Value)(R:LvL):Prop:=∃M,js w base v M/\gN w base M/\lvl M=R
theorem vw.down{w:World}{base base':Nat}{v:Value}{R:LvL}(h:vw w base v R)(d:base'<=base):vw w base' v R:=by
 obtain⟨M,i,j,k⟩:=h;exact⟨M,js.down i d,j.down d,k⟩
theorem vw.nil(w:World)(base:Nat):vw w base (.slice none 0 0) []:=⟨[],js.nil _ _,fun x d=>(by cases d),rfl⟩
def kh(w:World)(v:Value)(R:LvL):Prop:=∃M,nS w v M/\lvl M=R
theorem vw.has{w:World}{base:Nat}{v:Value}{R:LvL}(h:vw w base v R):kh w v R:=by
 obtain⟨M,d,i,j⟩:=h;exact⟨M,js.xE d i.each,j⟩
theorem kh.below{w w':World}{v:Value}{R:LvL}{B:Nat}(h:kh w v R)(k:Below B w w')(j:w.1.size<=B):kh w' v R:=by
 obtain⟨M,d,i⟩:=h;exact⟨M,d.below k j,i⟩
theorem kh.form{w:World}{v:Value}{R:LvL}(h:kh w v R):∃A off d,v=.slice A R.length d/\R.length<=maxLen /\
  ∀i x,R[i]? = some x->∃b u,A=some ⟨b,off,none⟩/\b<w.1.size/\w.cell? ⟨b,off+i,none⟩=some u/\kF w u x:=by
 obtain⟨M,k,rfl⟩:=h;obtain⟨A,off,d,s,r,q⟩:=k.1.form;rw[bX];refine⟨A,off,d,s,r,fun i x j=>?_⟩;unfold lvl at j;rw[qu]at j;obtain⟨y,l,rfl⟩:=xG.1 j;obtain⟨b,m,o,p⟩:=q i y l;exact⟨b,y.v,m,o,p,k.2 y (qM l)⟩
theorem kh.nil(w:World)(A:Option Addr)(c:Nat):kh w (.slice A 0 c) []:=⟨[],⟨qX ⟨rfl,A,c,rfl⟩,fun x d=>(by cases d)⟩,rfl⟩
end
section
open Go.RowKit
theorem Di(w:World)(z:Value)(n:Nat)(t:TypeId):RowB (w.alloc (.cells (madeCells #[z] n) t)) w.1.size n (fun _=>z) :=
 ⟨madeCells #[z] n,t,(0,0),World.alloc_heap_new w _,Nat.le_of_eq (size_madeCells _ _).symm,qX rfl,fun i d=>by simp[madeCells,d,Nat.mod_one]⟩
theorem RowB.alloc{w:World}{b n:Nat}{f:Nat->Value}(h:RowB w b n f)(o:Obj):RowB (w.alloc o) b n f:=h.of_block ((World.grownBy_alloc w o none).block b h.lt (by simp))
theorem RowB.grown{w w':World}{b n:Nat}{f:Nat->Value}{row:Option Nat}(h:RowB w b n f)(d:w.grownBy w' row)(i:some b≠row):RowB w' b n f:=h.of_block (d.block b h.lt i)
theorem RowB.own{β:Type}(b n:Nat)(f:β->Nat->Value):Own (fun(s:β) W=>RowB W b n (f s)):=fun s X Y row i l m =>
 i.grown l (fun e=>by
  obtain⟨o,d,k⟩:=m b e.symm;obtain⟨c,t,p,j,_⟩:=i;rw[j]at d;cases d;cases k)
def KH(D:Nat):Deferred:={ target:=.collected D,args:=#[] }
def gO(B:Nat)(d:List Nat)(W:World):Prop:=d.Nodup/\∀D∈d,B<=D/\W.heap[D]? = some (.deferred (some []))
theorem gO.nil(B:Nat)(W:World):gO B [] W:=⟨List.nodup_nil,fun D h=>by cases h⟩
theorem gO.lt{B:Nat}{d:List Nat}{W:World}(h:gO B d W){D:Nat}(i:D∈d):D<W.1.size:=(ql.1 (h.2 D i).2).1
theorem gO.cons{B:Nat}{d:List Nat}{W:World}(h:gO B d W){D:Nat}(j:B<=D)(k:W.heap[D]? = some (.deferred (some [])))(l:D ∉ d):gO B (D::d) W :=
 ⟨List.nodup_cons.2 ⟨l,h.1⟩,fun E i=>by
  rcases qL.1 i with rfl|i
  ·exact⟨j,k⟩
  ·exact h.2 E i⟩
theorem Do{β:Type}{B N:Nat}{j:List Nat}(k:∀D∈j,D<N):OwnFrom N (fun(_ : β) W=>gO B j W):=fun s X Y row i l m =>
 ⟨i.1,fun D d=>⟨(i.2 D d).1,(l.block D (i.lt d) (fun e=>by
  have:=(m D e.symm).1;have:=k D d;omega)).trans (i.2 D d).2⟩⟩
theorem gO.setCell{B:Nat}{j:List Nat}{W:World}(h:gO B j W){c:Nat}(l:c<B)(i:Nat)(v:Value):gO B j (W.setCell ⟨c,i,none⟩ v) :=
 ⟨h.1,fun D d=>⟨(h.2 D d).1,(Below.heap_setCell W _ _ D (fun e=>by have:=(h.2 D d).1;have k:D=c:=e;omega)).trans (h.2 D d).2⟩⟩
theorem KI{F:Fence}{n:Nat}{P:Program}{j:Func}{l:Array Value}{R:Ending->World->Prop}{B:Nat}:∀(d:List Nat) (w:World),gO B d w ->
  (∀w',Below B w w'->LeavesInM F n P j l R [] .returning w')->LeavesInM F n P j l R (d.map KH) .returning w
 | [],w,_,h=>h w (qU _ _)
 | D::d,w,hD,h=>by
   have h1:=hD.2 D qC;have p:=hD.lt qC;have m:Below B w (w.putObj D (.deferred none)):=(qU B w).grown (grownBy_putObj' w D _) (by omega) (fun k e=>by cases e;exact h1.1);refine⟨by simp,.inl ⟨D,_,rfl,run_takeDeferred h1.2,KI d _ ⟨(List.nodup_cons.1 hD.1).2,fun E i=>⟨(hD.2 E (qF _ i)).1, ?_⟩⟩ fun w' hw=>h w' (m.trans hw)⟩⟩;have o:E≠D:=fun e=>(List.nodup_cons.1 hD.1).1 (e ▸ i)
   exact((grownBy_putObj' w D (.deferred none)).block E (hD.lt (qF _ i)) (fun e=>by cases e;exact o rfl)).trans (hD.2 E (qF _ i)).2
theorem KL(b:Nat)(w:World):(callFunc 286 #[.int .u64 (b:Nat)]).run prog w=.ok (.value (.float .f64 b)) w:=by
 rw[run_callFunc_extern func286 (by kernel_rfl) (by kernel_rfl) (by kernel_rfl) (e:=Extern.MathFloatBits.float64frombits) (by kernel_rfl)];rfl
theorem Dw{b c:Nat}(h:c<=b):decide ((c:Int)<=(b:Int))=true:=qB (by omega)
theorem FQ{b c:Nat}(h:¬c<=b):decide ((c:Int)<=(b:Int))=false:=qA (by omega)
end
section
open Go.ChangeShapes Go.WideShapes Go.ChangeAt Go.RowKit Go.Deep
structure jj where
 t:Tw
 d:Tw
 b:Nat
def km(s:Tw)(f:Int)(v:Value):Value:=.agg #[s,f,v]
end
section
open Go.ChangeShapes Go.WideShapes Go.ChangeAt Go.RowKit
section
variable {H:Type}{enc:TypeId × Value -> H}{P:Program}{w:World}{base:Nat}{spare:Nat -> Bool}{held:Bool}
theorem KM{d:Nat}{t:TypeId}{cs:List Value}{x:DataW H × List MemPlace}(i:P.underlying t=some (.float .f64))(h:DataW.trod enc P w base spare held d t cs=some x):∃n,cs=[.float .f64 n]/\x=(.lit (.float .f64 n),[])/\(Lit.float .f64 n).wf=true:=by
 cases d with
 | zero=>simp[DataW.trod]at h
 | succ n =>
   unfold DataW.trod at h;rw[i]at h;split at h<;>simp_all
end
end
end Go.Proofs.YthejglbnkmimjaaGreat

import Derived.Test.YthejglbnkmimjaaGreatPp00
import Derived.Test.YthejglbnkmimjaaGreatProg
import Derived.WalkLawsBesides
import Derived.WalkSpells
import Derived.Deep.OwnRows
import Derived.BigQuiet
import Derived.OpenShut
import Derived.Lib.IndexBytes
import Derived.Shelf.Abstract
set_option linter.unusedVariables false
set_option maxRecDepth 100000
set_option maxHeartbeats 9000000
namespace Go.Proofs.YthejglbnkmimjaaGreat
open Tryz
section
open Go.RowKit
theorem ln{k:IntKind}{a b:Int}(h:a=b):Ending.returned (.int k a) = .returned (.int k b):=by rw[h]
theorem Y8{k:IntKind}{a b:Int}(h:a=b):Value.int k a = .int k b:=by rw[h]
theorem lr{a b:Bool}(h:a=b):Ending.returned (.bool a) = .returned (.bool b):=by rw[h]
theorem yg{B:Nat}{a w:World}(h:Below B a w)(n:Nat):Below B a (w.drewN n):=⟨h.os,h.tape,h.output,h.size,h.block⟩
theorem bj{a b c:World}(h:Below a.heap.size a b)(k:Below b.heap.size b c):Below a.heap.size a c:=h.trans (k.mono h.size)
theorem Y9{a:Int}(h:(Lit.int .u64 a).wf=true):∃n:Nat,a=n/\n<18446744073709551616:=by
 have:=bounds_u64 h;exact⟨a.toNat,by omega,by omega⟩
theorem Yq{a:Int}(h:(Lit.int .u16 a).wf=true):∃n:Nat,a=n/\n<65536:=by
 have:=bounds_u16 h;exact⟨a.toNat,by omega,by omega⟩
theorem Yx{a:Int}(h:(Lit.int .u8 a).wf=true):∃n:Nat,a=n/\n<256:=by
 have:=bounds_u8 h;exact⟨a.toNat,by omega,by omega⟩
end
section
open Go.RowKit
structure ze(F:List Nat)(w w':World):Prop where
 os:w'.os=w.os
 tape:w'.tape=w.tape
 output:w'.output=w.output
 size:w.heap.size<=w'.heap.size
 block:∀b,b<w.heap.size->b ∉ F->w'.heap[b]? = w.heap[b]?
section
variable {F G:List Nat}{w a b c w':World}
theorem ze.refl(F:List Nat)(w:World):ze F w w:=⟨rfl,rfl,rfl,qZ _,fun _ _ _=>rfl⟩
theorem ze.trans(h:ze F a b)(k:ze G b c)(l:∀x∈G,x∈F∨a.heap.size<=x):ze F a c :=
 ⟨k.os.trans h.os,k.tape.trans h.tape,k.output.trans h.output,qR h.size k.size,fun x j i =>
  (k.block x (qP j h.size) (fun m=>by rcases l x m with d | d;exact i d;omega)).trans (h.block x j i)⟩
theorem ze.more(h:ze F a b)(i:∀x∈F,x∈G∨a.heap.size<=x):ze G a b :=
 ⟨h.os,h.tape,h.output,h.size,fun x l k=>h.block x l (fun j=>by rcases i x j with d | d;exact k d;omega)⟩
theorem ze.drew(h:ze F a w):ze F a w.drew:=⟨h.os,h.tape,h.output,h.size,h.block⟩
theorem ze.drewN(h:ze F a w)(n:Nat):ze F a (w.drewN n):=⟨h.os,h.tape,h.output,h.size,h.block⟩
theorem ze.alloc(h:ze F a w)(o:Obj):ze F a (w.alloc o) :=
 h.trans (G:=[]) ⟨rfl,rfl,rfl,by simp,fun k d _=>Below.heap_alloc _ _ _ d⟩ (fun _ h=>by cases h)
theorem ze.setCell(h:ze F a w){p:Addr}(i:p.block∈F∨a.heap.size<=p.block)(u:Value):ze F a (w.setCell p u) :=
 h.trans (G:=[p.block]) ⟨rfl,rfl,rfl,by simp[World.setCell],fun k _ d=>Below.heap_setCell _ _ _ _ (fun e=>d (by simp[e]))⟩ (fun x j=>by
  obtain rfl:x=p.block:=by simpa using j
  exact i)
theorem ze.grown(h:ze F a w){row:Option Nat}(d:w.grownBy w' row)(l:∀k,row=some k->k∈F∨a.heap.size<=k):ze F a w' :=
 h.trans (G:=row.toList) ⟨d.os,d.tape,d.output,d.size,fun k i j=>d.block k i (fun e=>j (by rw[<-e];simp))⟩ (fun x m=>l x (by simpa using m))
theorem ze.qm(h:Below w.heap.size w w'):ze [] w w':=⟨h.os,h.tape,h.output,h.size,fun k d _=>h.block k d⟩
theorem ze.below(h:ze F w w'){B:Nat}(i:B<=w.heap.size)(hF:∀x∈F,B<=x):Below B w w' :=
 ⟨h.os,h.tape,h.output,h.size,fun k j=>h.block k (by omega) (fun d=>by have:=hF k d;omega)⟩
theorem ze.cell(h:ze F w w'){p:Addr}(i:p.block<w.heap.size)(d:p.block ∉ F):w'.cell? p=w.cell? p:=World.cell?_of_block (w:=w) (h.block p.block i d)
end
def za(w:World)(g:Nat)(t:TypeId)(cs:Array Value):Prop:=w.heap[g]? = some (.cells cs t (0,0))
section
variable {F:List Nat}{w w':World}{g:Nat}{t:TypeId}{cs:Array Value}
theorem za.lt(h:za w g t cs):g<w.heap.size:=by
 rcases Nat.lt_or_ge g w.heap.size with i|d
 ·exact i
 ·unfold za at h;rw[Array.getElem?_eq_none d]at h;cases h
theorem za.cell(h:za w g t cs)(i:Nat):w.cell? ⟨g,i,none⟩=cs[i]? := cell_of_row w g i cs t (0,0) h
theorem za.frozen(h:za w g t cs)(i:Nat):w.frozen? ⟨g,i,none⟩=false:=frozen_of_row w g i cs t h
theorem za.new(w:World)(t:TypeId)(cs:Array Value):za (w.alloc (.cells cs t)) w.heap.size t cs:=heap_alloc_new w _
theorem za.drew(h:za w g t cs):za w.drew g t cs:=h
theorem za.drewN(h:za w g t cs)(n:Nat):za (w.drewN n) g t cs:=h
theorem za.alloc(h:za w g t cs)(o:Obj):za (w.alloc o) g t cs:=(Below.heap_alloc w o g h.lt).trans h
theorem za.put(h:za w g t cs)(i:Nat)(u:Value):za (w.setCell ⟨g,i,none⟩ u) g t (cs.setIfInBounds i u):=heap_setCell_same w g i cs t u h
theorem za.qe(h:za w g t cs){p:Addr}(d:g≠p.block)(u:Value):za (w.setCell p u) g t cs:=(heap_setCell_other w p g u d).trans h
theorem za.qa(h:za w g t cs)(i:ze F w w')(d:g ∉ F):za w' g t cs:=(i.block g h.lt d).trans h
theorem za.xS{i:Nat}{j:TypeId}{k:Array Value}(h:za w g t cs)(d:za w i j k)(l:t≠j):g≠i:=by
 rintro rfl;unfold za at h d;rw[h]at d;injection d with d;injection d with _ ht;exact l ht
end
section
variable {F:List Nat}{w w':World}{base:Nat}{e:TypeId}{size n:Nat}{v:Value}{xs:List Value}
theorem gz(h:w.ownsRow base e size v n xs)(s:ze F w w')(hF:∀b,v.ownBlock=some b->b ∉ F):w'.ownsRow base e size v n xs:=by
 refine⟨h.1, ?_⟩;rcases h.2 with j|⟨g,d,i,rfl,p,q,k,l,m,o⟩
 ·exact .inl j
 ·have r:g<w.heap.size:=(h.lt g rfl).2;exact .inr ⟨g,d,i,rfl,p,(s.block g r (hF g rfl)).trans q,k,l,m,o⟩
theorem vW(h:w.ownsRow base e size v n xs){p:Addr}(j:v.ownBlock≠some p.block)(u:Value):(w.setCell p u).ownsRow base e size v n xs :=
 gz h (ze.setCell (F:=[p.block]) (ze.refl _ w) (qX (by simp)) u) (fun b d i=>j (by rw[d];simpa using i))
theorem kv{g:Nat}{t:TypeId}{cs:Array Value}(h:w.ownsRow base e size v n xs)(k:za w g t cs)(m:e≠t):v.ownBlock≠some g:=by
 rcases h.2 with⟨rfl,_⟩|⟨d,o,i,rfl,_,l,_⟩
 ·simp[Value.ownBlock]
 ·intro j;have:d=g:=by simpa[Value.ownBlock] using j
  subst this;exact za.xS (show za w d e i from l) k m rfl
theorem cG{base':Nat}{d:TypeId}{r q:Nat}{k:Value}{s:List Value}(h:w.ownsRow base e size v n xs)(m:w.ownsRow base' d r k q s)(p:e≠d):∀b,k.ownBlock=some b->v.ownBlock≠some b:=by
 intro b j;rcases m.2 with⟨rfl,_⟩|⟨i,u,l,rfl,_,o,_⟩
 ·simp[Value.ownBlock]at j
 ·obtain rfl:i=b:=by simpa[Value.ownBlock] using j
  exact kv h (show za w i d l from o) p
theorem v8(h:w.ownsRow base e size v n xs):∃A d,v = .slice A n d/\n<=d/\d<=maxLen/\(0<n->∃b,A=some ⟨b,0,none⟩/\base<=b/\b<w.heap.size)/\(A=none->n=0/\d=0):=by
 rcases h.2 with⟨rfl,rfl⟩|⟨g,d,l,rfl,k,p,i,j,m,o⟩
 ·exact⟨none,0,rfl,qZ _,qH _,fun h=>absurd h (by omega),fun _=>⟨rfl,rfl⟩⟩
 ·exact⟨_,d,rfl,i,j,fun _=>⟨g,rfl,k,(h.lt g rfl).2⟩,fun h=>by cases h⟩
end
def cW(w:World)(size:Nat)(v:Value)(m:Nat)(d:List Value):Prop :=
 d.length=m*size/\((∃c,v = .slice none 0 c/\m=0)∨∃a c,v = .slice (some a) m c/\∀j u,d[j]? = some u->w.cell? (a.add j)=some u)
section
variable {P:Program}
theorem cr(w:World)(base:Nat)(t e:TypeId)(i:TypeInfo)(z:Value)(size bytes:Nat)(p:TypeId)(o:P.underlying t=some (.slice e))(hi:P.info? e=some i)(O:i.zero=some z)
  (M:i.size=size) (H:i.bytes=bytes) (Q:z.cells.size=size) (N:0<size)
  (v:Value) (n:Nat) (xs:List Value) (k:w.ownsRow base e size v n xs) (q:Value) (m:Nat) (j:List Value) (l:cW w size q m j) (B:∀u∈j,u.oneCell'=true)
  (C:n+m<=maxLen) (I:(n+m)*bytes<=140737488355328) (D:base<=w.heap.size):
  ∃d w',(Builtin.append_ #[t,t] p #[v,q]).run P w = .ok d w'/\w'.ownsRow base e size d (n+m) (xs++j)/\w.grownBy w' v.ownBlock/\(d.ownBlock=v.ownBlock∨d.ownBlock=some w.heap.size):=by
 rcases l.2 with⟨c,rfl,rfl⟩|⟨a,c,rfl,J⟩
 ·have K:j=[]:=List.eq_nil_of_length_eq_zero (by simpa using l.1);subst K;refine⟨v,w, ?_,by simpa using k,⟨rfl,rfl,rfl,qZ _,fun _ _ _=>rfl⟩,qX rfl⟩;rcases k.2 with⟨rfl,rfl⟩|⟨g,R,S,rfl,_,_,L,_⟩
  ·simp[Builtin.append_,run_underlying o,sizeOf,typeInfo,hi,Builtin.lenOf,Builtin.firstCells]
  ·simp[Builtin.append_,run_underlying o,sizeOf,typeInfo,hi,Builtin.lenOf,Builtin.firstCells,L,storeCells]
 ·obtain⟨d,w',r,s,y,_,A⟩:=run_append_own_at (P:=P) w base t p e i z size bytes o hi O M H Q N v n xs k a m c j l.1 J B C I D;exact⟨d,w',r,s,y,A⟩
theorem Q6{d:Array Oper}{o:Oper}{a:Act}{w w':World}{K:Act->World->Prop}{Q:Exit->Act->World->Prop}{E:Prop}{j k i:Value}(l:o.guard=none)(s x:Operand)(t:TypeId)
  (m:o.op = .call { callee:=.builtin .append,args:=#[s,x],argTypes:=#[t,t] }) (q:a.eval s=j) (r:a.eval x=k)
  (p:(Builtin.append_ #[t,t] o.type #[j,k]).run P w = .ok i w') (h:K (a.put o.dst i) w'):if Region.wanted o (yielded d a.tmps)=true then Oper.wp P o a w K Q else E:=by
 have hw:Region.wanted o (yielded d a.tmps)=true:=by simp[Region.wanted,l]
 rw[qK hw];unfold Oper.wp execOp;simp only[m,resolve,invoke,builtin,Sem.run_bind,Sem.run_pure,Result.andThen_ok,List.map_toArray,List.map_cons,List.map_nil,q,r,p];exact h
end
theorem yc{P:Program}{w w':World}{d:Array Oper}{rest:List Oper}{o:Oper}{a:Act}{Q:Exit->Act->World->Prop}{k l j:Value}{t i:TypeId}(p:o.guard=none)(s x:Operand)
  (q:o.op = .call { callee:=.builtin .append,args:=#[s,x],argTypes:=#[t,i] }) (u:a.eval s=k) (y:a.eval x=l) (r:(Builtin.append_ #[t,i] o.type #[k,l]).run P w = .ok j w') (h:wpList P d Q rest (a.put o.dst j) w'):wpList P d Q (o::rest) a w:=by
 refine wpList_plain p fun z m=>?_
 unfold Oper.wp execOp;simp only[q,resolve,invoke,builtin,Sem.run_bind,Sem.run_pure,Result.andThen_ok,List.map_toArray,List.map_cons,List.map_nil,u,y,r];exact m _ _ h
end
section
open Go.RowKit
def RowB(w:World)(b:Nat)(n:Nat)(f:Nat->Value):Prop :=
 ∃(c:Array Value) (t:TypeId) (d:Nat × Nat),w.heap[b]? = some (.cells c t d)/\n<=c.size/\(d=(0,0)∨n<=d.1)/\∀i,i<n->c[i]? = some (f i)
namespace RowB
variable {w:World}{b n:Nat}{f g:Nat -> Value}
theorem cell(h:RowB w b n f){i:Nat}(hi:i<n):w.cell? ⟨b,i,none⟩=some (f i):=by
 obtain⟨c,t,k,d,_,_,j⟩:=h;simp[World.cell?,d,j i hi]
theorem frozen(h:RowB w b n f){i:Nat}(hi:i<n):w.frozen? ⟨b,i,none⟩=false:=by
 obtain⟨c,t,⟨k,m⟩,j,_,d,_⟩:=h;rcases d with d|d
 ·cases d;simp[World.frozen?,j]
 ·have l:n<=k:=d;simp[World.frozen?,j];omega
theorem congr(h:RowB w b n f)(e:∀i,i<n->f i=g i):RowB w b n g:=by
 obtain⟨c,t,j,k,o,m,l⟩:=h;exact⟨c,t,j,k,o,m,fun i d=>by rw[l i d,e i d]⟩
theorem set(h:RowB w b n f)(i:Nat)(v:Value):RowB (w.setCell ⟨b,i,none⟩ v) b n (fun j=>if j=i then v else f j):=by
 obtain⟨c,t,d,k,p,m,l⟩:=h;refine⟨c.setIfInBounds i v,t,d, ?_,by simpa using p,m,fun j o=>?_⟩
 ·simp[World.setCell,Array.getElem?_modify,k]
 ·rw[Array.getElem?_setIfInBounds];by_cases e:j=i
  ·subst e;simp[show j<c.size by omega]
  ·rw[qJ (fun h=>e h.symm)];show c[j]? = some (if j=i then v else f j);rw[qJ e];exact l j o
end RowB
def fk(l:List UInt8)(j:Nat):Value:=.int .u8 ((l.getD j 0).toNat:Int)
theorem Yz{w:World}{b n:Nat}{l:List UInt8}(h:RowB w b n (fk l))(k:l.length=n)(d:Nat):(convert 154 9 (.slice (some ⟨b,0,none⟩) n d)).run prog w = .ok (.string ⟨l.toArray⟩) w:=by
 have h:=run_convert_bytes_back (P:=prog) w 154 9 5 ⟨b,0,none⟩ d l Tryz.underlying154 Tryz.underlying5 Tryz.underlying9
  (fun j i=>by
   have e:(⟨b,0,none⟩:Addr).add j=⟨b,j,none⟩:=(by simp[Addr.add];omega);rw[e,h.cell (by omega)];unfold fk;rw[qu,qD i];rfl)
 rw[k]at h;exact h
end
section
open Go.RowKit
def ju(w:World)(v:Value)(l:List Int):Prop :=
 (l=[]/\∃a c,v = .slice a 0 c)∨∃b off d,v = .slice (some ⟨b,off,none⟩) l.length d/\l.length<=d/\d<=maxLen/\b<w.heap.size/\∀i x,l[i]? = some x->w.cell? ⟨b,off+i,none⟩=some (.int .i64 x)
theorem ju.cell{w:World}{v:Value}{l:List Int}(h:ju w v l):∃A off d,v = .slice A l.length d/\l.length<=maxLen/\∀i x,l[i]? = some x->∃b,A=some ⟨b,off,none⟩/\w.cell? ⟨b,off+i,none⟩=some (.int .i64 x):=by
 rcases h with⟨rfl,a,c,rfl⟩|⟨b,off,d,j,o,p,q,k⟩
 ·exact⟨a,0,c,rfl,qH _,fun i x h=>by simp at h⟩
 ·exact⟨some ⟨b,off,none⟩,off,d,j,by omega,fun i x m=>⟨b,rfl,k i x m⟩⟩
theorem ju.below{w w':World}{v:Value}{l:List Int}{B:Nat}(h:ju w v l)(j:Below B w w')(r:w.heap.size<=B):ju w' v l:=by
 rcases h with h|⟨b,off,k,rfl,m,o,d,q⟩
 ·exact qX h
 ·exact qY ⟨b,off,k,rfl,m,o,qP d j.size,fun i x s=>(j.cell (p:=⟨b,off+i,none⟩) (qP d r)).trans (q i x s)⟩
theorem ny: (prog.info? 3).map (fun i=>(i.zero,i.size,i.bytes))=some (some (.int .i64 0),1,8):=by kernel_rfl
end
section
theorem Q7{a b:Tw}(h:a=b):(a.toList != b.toList)=false/\(a.toList==b.toList)=true/\(!(a.toList==b.toList))=false:=by subst h;simp
theorem Q8{a b:Tw}(h:¬a=b):(a.toList != b.toList)=true/\(a.toList==b.toList)=false/\(!(a.toList==b.toList))=true:=by
 have:¬a.toList=b.toList:=fun x=>by
  rw[Lib.toList_data,Lib.toList_data]at x;exact h (ByteArray.ext (Array.toList_inj.1 x))
 simpa using this
end
section
open Go.RowKit
def ui(s p:Tw):Bool:=decide (p.size<=s.size/\s.extract 0 p.size=p)
theorem Yj(s p:Tw)(w:World)(j:s.size<=maxLen)(i:p.size<=maxLen):
  Calls prog 208 #[.string s,.string p] w fun e w'=>e = .returned (.bool (ui s p))/\w=w':=by
 unfold maxLen at j i;unfold ui;by_cases h:p.size<=s.size
 ·have k:(p.size:Int)<=(s.size:Int):=by omega
  by_cases d:s.extract 0 p.size=p
  ·rw[qW ⟨h,d⟩];obtain⟨l,m,o⟩:=Q7 d;clear d;go_enter func208,ntmps208;go_wp2;go_ret;exact⟨rfl,rfl⟩
  ·rw[qG (fun h=>d h.2)];obtain⟨l,m,o⟩:=Q8 d;clear d;go_enter func208,ntmps208;go_wp2;go_ret;exact⟨rfl,rfl⟩
 ·rw[qG (fun q=>h q.1)];have k:decide ((p.size:Int)<=(s.size:Int))=false:=qG (by omega);go_enter func208,ntmps208;go_wp2;go_ret;exact⟨rfl,rfl⟩
theorem pr(s p:Tw)(w:World)(i:s.size<=maxLen)(d:p.size<=maxLen):
  Calls prog 153 #[.string s,.string p] w fun e w'=>e = .returned (.bool (ui s p))/\w=w':=by
 have H:=qQ (Yj s p w i d);go_enter func153,ntmps153;go_wp2_with fail;refine(H.out).mono ?_;rintro e j⟨rfl,rfl⟩;go_wp2;go_ret;exact⟨rfl,rfl⟩
end
section
abbrev LvL:= List (List Int)
def dy(L:LvL):Prop:=L.length<=5/\L.flatten.length<=40/\(∀x∈L.flatten,0<=x)/\L.flatten.Nodup
instance (L : LvL):Decidable (dy L) := by unfold dy; infer_instance
def du(L:LvL):Bool:=decide (dy L)
def kP(L:LvL):Nat->Nat
 | 0=>0
 | n+1=>if L.getD n []=[] then kP L n else n+1
def jI(L:LvL):LvL:=L.take (kP L L.length)
theorem pt(L:LvL):∀n,kP L n<=n
 | 0=>qZ _
 | n+1=>by
   unfold kP;split
   ·exact Nat.le_succ_of_le (pt L n)
   ·exact qZ _
theorem Q9(L:LvL):∀n,n<=L.length->(L.take (kP L n)).flatten=(L.take n).flatten
 | 0,_=>rfl
 | n+1,h=>by
   unfold kP;split
   ·rename_i e;rw[Q9 L n (by omega),List.take_add_one,qD (by omega),List.flatten_append];rw[qu,qD (by omega)]at e;have d:L[n]=[]:=e;rw[d];simp
   ·rfl
theorem ng(L:LvL):(jI L).flatten=L.flatten:=by
 unfold jI;rw[Q9 L _ (qZ _),List.take_length]
theorem pa(L:LvL):(jI L).length<=L.length:=by unfold jI;rw[qq];omega
def dg(s:List Int)(m:Nat):Prop:=∀i,i<m->0<=s.getD i 0/\(0<i->s.getD i 0≠s.getD (i-1) 0)
def vq(l:List Int):List Int:=l.mergeSort fun x y=>decide (x<=y)
theorem mQ(l:List Int):(vq l).length=l.length:=(List.mergeSort_perm l _).length_eq
theorem Yk(l:List Int):∀i j:Nat,(hi:i<(vq l).length)->(d:j<(vq l).length)->i<j->(vq l)[i]<=(vq l)[j]:=by
 have h:=List.pairwise_mergeSort (le:=fun x y:Int=>decide (x<=y)) (fun a b c m o=>by simp at*;omega) (fun a b=>by simp;omega) l;intro i j hi d k;exact of_decide_eq_true (List.pairwise_iff_getElem.1 h i j hi d k)
theorem Yv(l:List Int):dg (vq l) (vq l).length↔(∀x∈l,0<=x)/\l.Nodup:=by
 have m:(vq l).Perm l:=List.mergeSort_perm l _;have q:=Yk l;constructor
 ·intro h;refine⟨fun x r=>?_,m.nodup_iff.1 ?_⟩
  ·obtain⟨i,d,rfl⟩:=List.getElem_of_mem (m.mem_iff.2 r);have:=(h i d).1
   rwa [qu,qD d]at this
  ·refine List.pairwise_iff_getElem.2 fun i j d o z=>?_
   have k:=(h j o).2 (by omega);rw[qu,qD o,qu,qD (show j-1<(vq l).length by omega)]at k;have u:(vq l)[j]≠(vq l)[j-1]:=k;have p:=q (j-1) j (by omega) o (by omega)
   have y:(vq l)[i]<=(vq l)[j-1]:=by
    rcases Nat.lt_or_ge i (j-1) with c|c
    ·exact q i (j-1) d (by omega) c
    ·have:i=j-1:=(by omega);subst this;exact Int.le_refl _
   omega
 ·rintro ⟨k,p⟩ i d;refine⟨?_,fun s=>?_⟩
  ·rw[qu,qD d];exact k _ (m.mem_iff.1 (List.getElem_mem d))
  ·rw[qu,qD d,qu,qD (show i-1<(vq l).length by omega)];have:=List.pairwise_iff_getElem.1 (m.nodup_iff.2 p) (i-1) i (by omega) d (by omega);exact fun e=>this e.symm
end
section
open Go.RowKit Go.Shelf
def Qq(K:Nat)(w:World)(e:Ending)(w':World):Prop:=e = .returned (.int .i64 (K:Nat))/\Below w.heap.size w w'
theorem Yy(f:FuncId)(y z:Value)(n K:Nat)(w:World)(U:n<=1000000)(H:K<=n)(D:Enters prog f)
  (s:∀(i:Nat) (W:World),i<n->Below w.heap.size w W->Calls prog f #[.int .i64 (i:Nat),y,z] W fun e C=>e = .returned (.bool (decide (K<=i)))/\Below W.heap.size W C):
  Calls prog 205 #[.int .i64 (n:Nat),.func (.func f) #[] #[y,z]] w (Qq K w):=by
 have A:=qQ s;unfold Enters at D;clear s;go_enter func205,ntmps205;go_wp2;go_loopw [5,6] (fun o l wr=>∃a b:Nat,a<=K/\K<=b/\b<=n/\o = .int .i64 a/\l = .int .i64 b/\Below w.heap.size w wr) (fun o l _=>(intOf l).toNat-(intOf o).toNat)
 case atStart=>exact⟨0,n,qH _,H,qZ _,rfl,rfl,Below.refl _ _⟩
 case round =>
  obtain⟨a,b,I,M,J,rfl,rfl,j⟩:=hrel;by_cases S:a<b
  ·obtain⟨d,u⟩:∃d,d=(a+b)/2:=⟨_,rfl⟩
   have O:a<=d:=(by omega);have Q:d<b:=(by omega);have V:(a:Int)<(b:Int):=(by omega);have T:((a:Int)+(b:Int))/2=(d:Int):=(by omega);have L:d<n:=(by omega);have R:(d:Int)<=1000000:=(by omega);have k:=A.out d wr L j;cases m:decide (K<=d)
   all_goals
    rw[m]at k;have B:=qQ k;have p:=qQ m;have N:=qQ u;clear m k u;go_wp2_with fail;refine B.out.mono ?_;rintro e X⟨rfl,q⟩;have r:=bj j q;clear j q;go_wp2;go_roundw
    case rel =>
     first
     | exact⟨d+1,b,by have:=of_decide_eq_false p.out;omega,M,J,by go_num,rfl,r⟩
     | exact⟨a,d,I,of_decide_eq_true p.out,by omega,rfl,by go_num,r⟩
    case measure=>simp[intOf];omega
  ·obtain rfl:a=b:=(by omega);obtain rfl:a=K:=(by omega);go_wp2;go_ret;exact⟨rfl,j⟩
end
section
open Go.RowKit
theorem Qx(b:Nat)(w:World):(callFunc 286 #[.int .u64 (b:Nat)]).run prog w = .ok (.value (.float .f64 b)) w:=by
 rw[run_callFunc_extern func286 (by kernel_rfl) (by kernel_rfl) (by kernel_rfl) (e:=Extern.MathFloatBits.float64frombits) (by kernel_rfl)];rfl
end
end Go.Proofs.YthejglbnkmimjaaGreat

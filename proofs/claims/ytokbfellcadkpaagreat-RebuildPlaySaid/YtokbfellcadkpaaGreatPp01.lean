import Derived.Test.YtokbfellcadkpaaGreatPp00
import Derived.Test.YtokbfellcadkpaaGreatProg
import Derived.WalkLawsBesides
import Derived.WalkSpells
import Derived.Deep.OwnRows
import Derived.BigQuiet
import Derived.OpenShut
import Derived.Lib.IndexBytes
import Derived.Shelf.Abstract
set_option linter.unusedVariables false
set_option maxRecDepth 100000
set_option maxHeartbeats 9000000
namespace Go.Proofs.YtokbfellcadkpaaGreat
open Tryz
section
open Go.RowKit
theorem mY{k:IntKind}{a b:Int}(h:a=b):Ending.returned (.int k a) = .returned (.int k b):=by rw[h]
theorem FQ{k:IntKind}{a b:Int}(h:a=b):Value.int k a = .int k b:=by rw[h]
theorem FX{a b:Bool}(h:a=b):Ending.returned (.bool a) = .returned (.bool b):=by rw[h]
theorem vo{B:Nat}{a w:World}(h:Below B a w)(n:Nat):Below B a (w.drewN n):=⟨h.os,h.tape,h.output,h.size,h.block⟩
theorem bj{a b c:World}(h:Below a.heap.size a b)(k:Below b.heap.size b c):Below a.heap.size a c:=h.trans (k.mono h.size)
theorem FZ{a:Int}(h:(Lit.int .u64 a).wf=true):∃n:Nat,a=n/\n<18446744073709551616:=by
 have:=bounds_u64 h;exact⟨a.toNat,by omega,by omega⟩
theorem Qs{a:Int}(h:(Lit.int .u8 a).wf=true):∃n:Nat,a=n/\n<256:=by
 have:=bounds_u8 h;exact⟨a.toNat,by omega,by omega⟩
end
section
open Go.RowKit
structure jG(F:List Nat)(w w':World):Prop where
 os:w'.os=w.os
 tape:w'.tape=w.tape
 output:w'.output=w.output
 size:w.heap.size<=w'.heap.size
 block:∀b,b<w.heap.size->b ∉ F->w'.heap[b]? = w.heap[b]?
section
variable {F G:List Nat}{w a b c w':World}
theorem jG.refl(F:List Nat)(w:World):jG F w w:=⟨rfl,rfl,rfl,qK _,fun _ _ _=>rfl⟩
theorem jG.trans(h:jG F a b)(k:jG G b c)(l:∀x∈G,x∈F∨a.heap.size<=x):jG F a c :=
 ⟨k.os.trans h.os,k.tape.trans h.tape,k.output.trans h.output,qO h.size k.size,fun x j i =>
  (k.block x (qR j h.size) (fun m=>by rcases l x m with d | d;exact i d;omega)).trans (h.block x j i)⟩
theorem jG.more(h:jG F a b)(i:∀x∈F,x∈G∨a.heap.size<=x):jG G a b :=
 ⟨h.os,h.tape,h.output,h.size,fun x l k=>h.block x l (fun j=>by rcases i x j with d | d;exact k d;omega)⟩
theorem jG.drew(h:jG F a w):jG F a w.drew:=⟨h.os,h.tape,h.output,h.size,h.block⟩
theorem jG.drewN(h:jG F a w)(n:Nat):jG F a (w.drewN n):=⟨h.os,h.tape,h.output,h.size,h.block⟩
theorem jG.alloc(h:jG F a w)(o:Obj):jG F a (w.alloc o) :=
 h.trans (G:=[]) ⟨rfl,rfl,rfl,by simp,fun k d _=>Below.heap_alloc _ _ _ d⟩ (fun _ h=>by cases h)
theorem jG.setCell(h:jG F a w){p:Addr}(i:p.block∈F∨a.heap.size<=p.block)(u:Value):jG F a (w.setCell p u) :=
 h.trans (G:=[p.block]) ⟨rfl,rfl,rfl,by simp[World.setCell],fun k _ d=>Below.heap_setCell _ _ _ _ (fun e=>d (by simp[e]))⟩ (fun x j=>by
  obtain rfl:x=p.block:=by simpa using j
  exact i)
theorem jG.grown(h:jG F a w){row:Option Nat}(d:w.grownBy w' row)(l:∀k,row=some k->k∈F∨a.heap.size<=k):jG F a w' :=
 h.trans (G:=row.toList) ⟨d.os,d.tape,d.output,d.size,fun k i j=>d.block k i (fun e=>j (by rw[<-e];simp))⟩ (fun x m=>l x (by simpa using m))
theorem jG.qn(h:Below w.heap.size w w'):jG [] w w':=⟨h.os,h.tape,h.output,h.size,fun k d _=>h.block k d⟩
theorem jG.below(h:jG F w w'){B:Nat}(i:B<=w.heap.size)(hF:∀x∈F,B<=x):Below B w w' :=
 ⟨h.os,h.tape,h.output,h.size,fun k j=>h.block k (by omega) (fun d=>by have:=hF k d;omega)⟩
theorem jG.cell(h:jG F w w'){p:Addr}(i:p.block<w.heap.size)(d:p.block ∉ F):w'.cell? p=w.cell? p:=World.cell?_of_block (w:=w) (h.block p.block i d)
end
def jY(w:World)(g:Nat)(t:TypeId)(cs:Array Value):Prop:=w.heap[g]? = some (.cells cs t (0,0))
section
variable {F:List Nat}{w w':World}{g:Nat}{t:TypeId}{cs:Array Value}
theorem jY.lt(h:jY w g t cs):g<w.heap.size:=by
 rcases Nat.lt_or_ge g w.heap.size with i|d
 ·exact i
 ·unfold jY at h;rw[Array.getElem?_eq_none d]at h;cases h
theorem jY.cell(h:jY w g t cs)(i:Nat):w.cell? ⟨g,i,none⟩=cs[i]? := cell_of_row w g i cs t (0,0) h
theorem jY.frozen(h:jY w g t cs)(i:Nat):w.frozen? ⟨g,i,none⟩=false:=frozen_of_row w g i cs t h
theorem jY.new(w:World)(t:TypeId)(cs:Array Value):jY (w.alloc (.cells cs t)) w.heap.size t cs:=heap_alloc_new w _
theorem jY.drew(h:jY w g t cs):jY w.drew g t cs:=h
theorem jY.drewN(h:jY w g t cs)(n:Nat):jY (w.drewN n) g t cs:=h
theorem jY.alloc(h:jY w g t cs)(o:Obj):jY (w.alloc o) g t cs:=(Below.heap_alloc w o g h.lt).trans h
theorem jY.put(h:jY w g t cs)(i:Nat)(u:Value):jY (w.setCell ⟨g,i,none⟩ u) g t (cs.setIfInBounds i u):=heap_setCell_same w g i cs t u h
theorem jY.qo(h:jY w g t cs){p:Addr}(d:g≠p.block)(u:Value):jY (w.setCell p u) g t cs:=(heap_setCell_other w p g u d).trans h
theorem jY.qe(h:jY w g t cs)(i:jG F w w')(d:g ∉ F):jY w' g t cs:=(i.block g h.lt d).trans h
theorem jY.xP{i:Nat}{j:TypeId}{k:Array Value}(h:jY w g t cs)(d:jY w i j k)(l:t≠j):g≠i:=by
 rintro rfl;unfold jY at h d;rw[h]at d;injection d with d;injection d with _ ht;exact l ht
end
section
variable {F:List Nat}{w w':World}{base:Nat}{e:TypeId}{size n:Nat}{v:Value}{xs:List Value}
theorem lC(h:w.ownsRow base e size v n xs)(s:jG F w w')(hF:∀b,v.ownBlock=some b->b ∉ F):w'.ownsRow base e size v n xs:=by
 refine⟨h.1, ?_⟩;rcases h.2 with j|⟨g,d,i,rfl,p,q,k,l,m,o⟩
 ·exact .inl j
 ·have r:g<w.heap.size:=(h.lt g rfl).2;exact .inr ⟨g,d,i,rfl,p,(s.block g r (hF g rfl)).trans q,k,l,m,o⟩
theorem yH(h:w.ownsRow base e size v n xs){p:Addr}(j:v.ownBlock≠some p.block)(u:Value):(w.setCell p u).ownsRow base e size v n xs :=
 lC h (jG.setCell (F:=[p.block]) (jG.refl _ w) (qX (by simp)) u) (fun b d i=>j (by rw[d];simpa using i))
theorem vR{g:Nat}{t:TypeId}{cs:Array Value}(h:w.ownsRow base e size v n xs)(k:jY w g t cs)(m:e≠t):v.ownBlock≠some g:=by
 rcases h.2 with⟨rfl,_⟩|⟨d,o,i,rfl,_,l,_⟩
 ·simp[Value.ownBlock]
 ·intro j;have:d=g:=by simpa[Value.ownBlock] using j
  subst this;exact jY.xP (show jY w d e i from l) k m rfl
theorem lD{base':Nat}{d:TypeId}{r q:Nat}{k:Value}{s:List Value}(h:w.ownsRow base e size v n xs)(m:w.ownsRow base' d r k q s)(p:e≠d):∀b,k.ownBlock=some b->v.ownBlock≠some b:=by
 intro b j;rcases m.2 with⟨rfl,_⟩|⟨i,u,l,rfl,_,o,_⟩
 ·simp[Value.ownBlock]at j
 ·obtain rfl:i=b:=by simpa[Value.ownBlock] using j
  exact vR h (show jY w i d l from o) p
theorem yw(h:w.ownsRow base e size v n xs):∃A cap,v = .slice A n cap/\n<=cap/\cap<=maxLen/\(0<n->∃b,A=some ⟨b,0,none⟩/\base<=b/\b<w.heap.size)/\(A=none->n=0/\cap=0):=by
 rcases h.2 with⟨rfl,rfl⟩|⟨g,cap,k,rfl,j,o,d,i,l,m⟩
 ·exact⟨none,0,rfl,qK _,qF _,fun h=>absurd h (by omega),fun _=>⟨rfl,rfl⟩⟩
 ·exact⟨_,cap,rfl,d,i,fun _=>⟨g,rfl,j,(h.lt g rfl).2⟩,fun h=>by cases h⟩
end
def dg(w:World)(size:Nat)(v:Value)(m:Nat)(d:List Value):Prop :=
 d.length=m*size/\((∃c,v = .slice none 0 c/\m=0)∨∃a c,v = .slice (some a) m c/\∀j u,d[j]? = some u->w.cell? (a.add j)=some u)
section
variable {P:Program}
theorem fE(w:World)(base:Nat)(t e:TypeId)(i:TypeInfo)(z:Value)(size bytes:Nat)(p:TypeId)(o:P.underlying t=some (.slice e))(hi:P.info? e=some i)(O:i.zero=some z)
  (M:i.size=size) (H:i.bytes=bytes) (Q:z.cells.size=size) (N:0<size)
  (v:Value) (n:Nat) (xs:List Value) (k:w.ownsRow base e size v n xs) (q:Value) (m:Nat) (j:List Value) (l:dg w size q m j) (B:∀u∈j,u.oneCell'=true)
  (C:n+m<=maxLen) (I:(n+m)*bytes<=140737488355328) (D:base<=w.heap.size):
  ∃d w',(Builtin.append_ #[t,t] p #[v,q]).run P w = .ok d w'/\w'.ownsRow base e size d (n+m) (xs++j)/\w.grownBy w' v.ownBlock/\(d.ownBlock=v.ownBlock∨d.ownBlock=some w.heap.size):=by
 rcases l.2 with⟨c,rfl,rfl⟩|⟨a,c,rfl,J⟩
 ·have K:j=[]:=List.eq_nil_of_length_eq_zero (by simpa using l.1);subst K;refine⟨v,w, ?_,by simpa using k,⟨rfl,rfl,rfl,qK _,fun _ _ _=>rfl⟩,qX rfl⟩;rcases k.2 with⟨rfl,rfl⟩|⟨g,R,S,rfl,_,_,L,_⟩
  ·simp[Builtin.append_,run_underlying o,sizeOf,typeInfo,hi,Builtin.lenOf,Builtin.firstCells]
  ·simp[Builtin.append_,run_underlying o,sizeOf,typeInfo,hi,Builtin.lenOf,Builtin.firstCells,L,storeCells]
 ·obtain⟨d,w',r,s,y,_,A⟩:=run_append_own_at (P:=P) w base t p e i z size bytes o hi O M H Q N v n xs k a m c j l.1 J B C I D;exact⟨d,w',r,s,y,A⟩
theorem KY{d:Array Oper}{o:Oper}{a:Act}{w w':World}{K:Act->World->Prop}{Q:Exit->Act->World->Prop}{E:Prop}{j k i:Value}(l:o.guard=none)(s x:Operand)(t:TypeId)
  (m:o.op = .call { callee:=.builtin .append,args:=#[s,x],argTypes:=#[t,t] }) (q:a.eval s=j) (r:a.eval x=k)
  (p:(Builtin.append_ #[t,t] o.type #[j,k]).run P w = .ok i w') (h:K (a.put o.dst i) w'):if Region.wanted o (yielded d a.tmps)=true then Oper.wp P o a w K Q else E:=by
 have hw:Region.wanted o (yielded d a.tmps)=true:=by simp[Region.wanted,l]
 rw[qV hw];unfold Oper.wp execOp;simp only[m,resolve,invoke,builtin,Sem.run_bind,Sem.run_pure,Result.andThen_ok,List.map_toArray,List.map_cons,List.map_nil,q,r,p];exact h
end
theorem yI{P:Program}{w w':World}{d:Array Oper}{rest:List Oper}{o:Oper}{a:Act}{Q:Exit->Act->World->Prop}{k l j:Value}{t i:TypeId}(p:o.guard=none)(s x:Operand)
  (q:o.op = .call { callee:=.builtin .append,args:=#[s,x],argTypes:=#[t,i] }) (u:a.eval s=k) (y:a.eval x=l) (r:(Builtin.append_ #[t,i] o.type #[k,l]).run P w = .ok j w') (h:wpList P d Q rest (a.put o.dst j) w'):wpList P d Q (o::rest) a w:=by
 refine wpList_plain p fun z m=>?_
 unfold Oper.wp execOp;simp only[q,resolve,invoke,builtin,Sem.run_bind,Sem.run_pure,Result.andThen_ok,List.map_toArray,List.map_cons,List.map_nil,u,y,r];exact m _ _ h
end
section
open Go.RowKit
def RowB(w:World)(b:Nat)(n:Nat)(f:Nat->Value):Prop :=
 ∃(c:Array Value) (t:TypeId) (d:Nat × Nat),w.heap[b]? = some (.cells c t d)/\n<=c.size/\(d=(0,0)∨n<=d.1)/\∀i,i<n->c[i]? = some (f i)
namespace RowB
variable {w:World}{b n:Nat}{f g:Nat -> Value}
theorem cell(h:RowB w b n f){i:Nat}(hi:i<n):w.cell? ⟨b,i,none⟩=some (f i):=by
 obtain⟨c,t,k,d,_,_,j⟩:=h;simp[World.cell?,d,j i hi]
theorem frozen(h:RowB w b n f){i:Nat}(hi:i<n):w.frozen? ⟨b,i,none⟩=false:=by
 obtain⟨c,t,⟨k,m⟩,j,_,d,_⟩:=h;rcases d with d|d
 ·cases d;simp[World.frozen?,j]
 ·have l:n<=k:=d;simp[World.frozen?,j];omega
theorem lt(h:RowB w b n f):b<w.heap.size:=by
 obtain⟨c,t,j,d,_⟩:=h;obtain⟨i,_⟩:=qm.1 d;exact i
theorem congr(h:RowB w b n f)(e:∀i,i<n->f i=g i):RowB w b n g:=by
 obtain⟨c,t,j,k,o,m,l⟩:=h;exact⟨c,t,j,k,o,m,fun i d=>by rw[l i d,e i d]⟩
theorem of_block{w':World}(h:RowB w b n f)(e:w'.heap[b]? = w.heap[b]?):RowB w' b n f:=by
 obtain⟨c,t,d,i,l,k,j⟩:=h;exact⟨c,t,d,e.trans i,l,k,j⟩
theorem below{w':World}(h:RowB w b n f)(d:Below w.heap.size w w'):RowB w' b n f:=h.of_block (d.block _ h.lt)
theorem set(h:RowB w b n f)(i:Nat)(v:Value):RowB (w.setCell ⟨b,i,none⟩ v) b n (fun j=>if j=i then v else f j):=by
 obtain⟨c,t,d,k,p,m,l⟩:=h;refine⟨c.setIfInBounds i v,t,d, ?_,by simpa using p,m,fun j o=>?_⟩
 ·simp[World.setCell,Array.getElem?_modify,k]
 ·rw[Array.getElem?_setIfInBounds];by_cases e:j=i
  ·subst e;simp[show j<c.size by omega]
  ·rw[qZ (fun h=>e h.symm)];show c[j]? = some (if j=i then v else f j);rw[qZ e];exact l j o
end RowB
def fF(l:List UInt8)(j:Nat):Value:=.int .u8 ((l.getD j 0).toNat:Int)
theorem Qt{w:World}{b n:Nat}{l:List UInt8}(h:RowB w b n (fF l))(i:l.length=n)(cap:Nat):(convert 109 9 (.slice (some ⟨b,0,none⟩) n cap)).run prog w = .ok (.string ⟨l.toArray⟩) w:=by
 have h:=run_convert_bytes_back (P:=prog) w 109 9 5 ⟨b,0,none⟩ cap l Tryz.underlying109 Tryz.underlying5 Tryz.underlying9
  (fun j d=>by
   have e:(⟨b,0,none⟩:Addr).add j=⟨b,j,none⟩:=(by simp[Addr.add];omega);rw[e,h.cell (by omega)];unfold fF;rw[qz,qC d];rfl)
 rw[i]at h;exact h
end
section
open Go.RowKit
def kX(w:World)(v:Value)(l:List Int):Prop :=
 (l=[]/\∃a c,v = .slice a 0 c)∨∃b off d,v = .slice (some ⟨b,off,none⟩) l.length d/\l.length<=d/\d<=maxLen/\b<w.heap.size/\∀i x,l[i]? = some x->w.cell? ⟨b,off+i,none⟩=some (.int .i64 x)
theorem kX.cell{w:World}{v:Value}{l:List Int}(h:kX w v l):∃A off cap,v = .slice A l.length cap/\l.length<=maxLen/\∀i x,l[i]? = some x->∃b,A=some ⟨b,off,none⟩/\w.cell? ⟨b,off+i,none⟩=some (.int .i64 x):=by
 rcases h with⟨rfl,a,c,rfl⟩|⟨b,off,cap,d,m,o,p,j⟩
 ·exact⟨a,0,c,rfl,qF _,fun i x h=>by simp at h⟩
 ·exact⟨some ⟨b,off,none⟩,off,cap,d,by omega,fun i x k=>⟨b,rfl,j i x k⟩⟩
theorem kX.below{w w':World}{v:Value}{l:List Int}{B:Nat}(h:kX w v l)(j:Below B w w')(r:w.heap.size<=B):kX w' v l:=by
 rcases h with h|⟨b,off,k,rfl,m,o,d,q⟩
 ·exact qX h
 ·exact qY ⟨b,off,k,rfl,m,o,qR d j.size,fun i x s=>(j.cell (p:=⟨b,off+i,none⟩) (qR d r)).trans (q i x s)⟩
theorem sW: (prog.info? 3).map (fun i=>(i.zero,i.size,i.bytes))=some (some (.int .i64 0),1,8):=by kernel_rfl
end
section
theorem KU{a b:Tw}(h:a=b):(a.toList != b.toList)=false/\(a.toList==b.toList)=true/\(!(a.toList==b.toList))=false:=by subst h;simp
theorem KW{a b:Tw}(h:¬a=b):(a.toList != b.toList)=true/\(a.toList==b.toList)=false/\(!(a.toList==b.toList))=true:=by
 have:¬a.toList=b.toList:=fun x=>by
  rw[Lib.toList_data,Lib.toList_data]at x;exact h (ByteArray.ext (Array.toList_inj.1 x))
 simpa using this
end
section
open Go.RowKit
def cY(s p:Tw):Bool:=decide (p.size<=s.size/\s.extract 0 p.size=p)
theorem FJ(s p:Tw)(w:World)(j:s.size<=maxLen)(i:p.size<=maxLen):
  Calls prog 184 #[.string s,.string p] w fun e w'=>e = .returned (.bool (cY s p))/\w=w':=by
 unfold maxLen at j i;unfold cY;by_cases h:p.size<=s.size
 ·have k:(p.size:Int)<=(s.size:Int):=by omega
  by_cases d:s.extract 0 p.size=p
  ·rw[qA ⟨h,d⟩];obtain⟨l,m,o⟩:=KU d;clear d;go_enter func184,ntmps184;go_wp2;go_ret;exact⟨rfl,rfl⟩
  ·rw[qW (fun h=>d h.2)];obtain⟨l,m,o⟩:=KW d;clear d;go_enter func184,ntmps184;go_wp2;go_ret;exact⟨rfl,rfl⟩
 ·rw[qW (fun q=>h q.1)];have k:decide ((p.size:Int)<=(s.size:Int))=false:=qW (by omega);go_enter func184,ntmps184;go_wp2;go_ret;exact⟨rfl,rfl⟩
theorem Qa(s p:Tw)(w:World)(i:s.size<=maxLen)(d:p.size<=maxLen):
  Calls prog 144 #[.string s,.string p] w fun e w'=>e = .returned (.bool (cY s p))/\w=w':=by
 have H:=qQ (FJ s p w i d);go_enter func144,ntmps144;go_wp2_with fail;refine(H.out).mono ?_;rintro e j⟨rfl,rfl⟩;go_wp2;go_ret;exact⟨rfl,rfl⟩
end
section
abbrev LvL:= List (List Int)
def bq(L:LvL):Prop:=L.length<=5/\L.flatten.length<=40/\(∀x∈L.flatten,0<=x)/\L.flatten.Nodup
instance (L : LvL):Decidable (bq L) := by unfold bq; infer_instance
def yT(L:LvL):Bool:=decide (bq L)
def pV(L:LvL)(k:Nat):LvL:=L.take k++List.replicate (5-k) []
def ke(L:LvL):LvL:=pV L L.length
def kU(L:LvL):Nat->Nat
 | 0=>0
 | n+1=>if L.getD n []=[] then kU L n else n+1
def jI(L:LvL):LvL:=L.take (kU L L.length)
def uD(L:LvL)(k:Nat)(n:Int):LvL:=L.set k (L.getD k []++[n])
def vd(L:LvL)(n:Int):Int:=if yT L=false∨n<0∨n∈L.flatten then 2 else if L.flatten.length=40 then 60 else 0
def kJ(L:LvL)(n:Int):LvL:=if vd L n=0 then jI (uD (ke L) 0 n) else []
def ki(L:LvL)(k:Int):Int:=if yT L=false∨k<0∨4<k then 2 else if (ke L).getD k.toNat []=[] then 4 else 0
def js(L:LvL)(k:Int):List Int:=if ki L k=0 then(ke L).getD k.toNat [] else []
def toL(k:Nat):Nat:=if k<4 then k+1 else 4
def vw(L:LvL)(k n:Int):Int:=if ki L k≠0 then ki L k else if n<0∨n∈L.flatten then 2 else 0
def kN(L:LvL)(k n:Int):LvL:=if vw L k n=0 then jI (uD ((ke L).set k.toNat []) (toL k.toNat) n) else []
theorem FK{L:LvL}{k:Nat}(d:k<=L.length)(h:L.length<=5):(pV L k).length=5:=by
 unfold pV;rw[qI,qS,List.length_replicate];omega
theorem pY{L:LvL}(h:L.length<=5):(ke L).length=5:=FK (qK _) h
theorem FV(n:Nat):(List.replicate n ([]:List Int)).flatten=[]:=by
 induction n with
 | zero=>rfl
 | succ n d=>rw[List.replicate_succ,List.flatten_cons,d];rfl
theorem nC(L:LvL):(ke L).flatten=L.flatten:=by
 unfold ke pV;rw[List.take_length,List.flatten_append,FV,List.append_nil]
theorem lE(L:LvL)(k:Nat):(ke L).getD k []=L.getD k []:=by
 unfold ke pV;rw[List.take_length,qz,qz];rcases Nat.lt_or_ge k L.length with h|h
 ·rw[List.getElem?_append_left h]
 ·rw[List.getElem?_append_right h,List.getElem?_eq_none h];rcases Nat.lt_or_ge (k-L.length) (5-L.length) with d|d
  ·rw[qC (by rw[List.length_replicate];exact d),List.getElem_replicate];rfl
  ·rw[List.getElem?_eq_none (by rw[List.length_replicate];exact d)]
theorem sA(L:LvL):∀n,kU L n<=n
 | 0=>qK _
 | n+1=>by
   unfold kU;split
   ·exact Nat.le_succ_of_le (sA L n)
   ·exact qK _
theorem KA(L:LvL):∀n,n<=L.length->(L.take (kU L n)).flatten=(L.take n).flatten
 | 0,_=>rfl
 | n+1,h=>by
   unfold kU;split
   ·rename_i e;rw[KA L n (by omega),List.take_add_one,qC (by omega),List.flatten_append];rw[qz,qC (by omega)]at e;have d:L[n]=[]:=e;rw[d];simp
   ·rfl
theorem lF(L:LvL):(jI L).flatten=L.flatten:=by
 unfold jI;rw[KA L _ (qK _),List.take_length]
theorem pU(L:LvL):(jI L).length<=L.length:=by unfold jI;rw[qS];omega
theorem Qe(L:LvL)(k:Nat)(n:Int):(uD L k n).length=L.length:=List.length_set
theorem sC{L:LvL}{k:Nat}(n:Int)(h:k<L.length):(uD L k n).flatten.Perm (n::L.flatten):=by
 unfold uD;rw[List.set_eq_take_append_cons_drop,qV h,qz,qC h]
 have e:L.flatten=(L.take k).flatten++(L[k]++(L.drop (k+1)).flatten):=by
  conv=>lhs;rw[<-ql k L,List.flatten_append,List.drop_eq_getElem_cons h,List.flatten_cons]
 rw[e,List.flatten_append,List.flatten_cons];show((L.take k).flatten++((L[k]++[n])++(L.drop (k+1)).flatten)).Perm _;have d:(L.take k).flatten++((L[k]++[n])++(L.drop (k+1)).flatten)=((L.take k).flatten++L[k])++n::(L.drop (k+1)).flatten:=by simp
 rw[d];refine List.perm_middle.trans ?_;rw[qb]
theorem FY{L:LvL}{k:Nat}(h:k<L.length):(L.set k []).flatten.Sublist L.flatten/\(L.set k []).flatten.length+(L.getD k []).length=L.flatten.length:=by
 rw[List.set_eq_take_append_cons_drop,qV h,qz,qC h]
 have e:L.flatten=(L.take k).flatten++(L[k]++(L.drop (k+1)).flatten):=by
  conv=>lhs;rw[<-ql k L,List.flatten_append,List.drop_eq_getElem_cons h,List.flatten_cons]
 rw[e,List.flatten_append,List.flatten_cons,List.nil_append];refine⟨List.Sublist.append_left (List.sublist_append_right _ _) _, ?_⟩;simp only[List.length_append,Option.getD_some];omega
theorem KB(k:Nat):toL k<5:=by unfold toL;split<;>omega
theorem KC{L:LvL}{n:Int}(h:vd L n=0):bq (kJ L n)/\(kJ L n).flatten.length=L.flatten.length+1/\∀x∈(kJ L n).flatten,x=n∨x∈L.flatten:=by
 have i:=h;unfold vd at i;split at i
 ·cases i
 ·rename_i c;split at i
  ·cases i
  ·rename_i c2;have j:bq L:=of_decide_eq_true (by cases o:yT L with | true=>exact o | false=>exact absurd (qX o) c);have r:¬n<0:=fun e=>c (qY (qX e))
   have p:n ∉ L.flatten:=fun e=>c (qY (qY e))
   unfold kJ;rw[qV h];have q:=pY j.1;have d:=sC n (L:=ke L) (k:=0) (by omega);rw[nC]at d;rw[<-lF (uD (ke L) 0 n)]at d;have m:=d.length_eq;rw[qk]at m;refine⟨⟨?_, ?_,fun x l=>?_,d.nodup_iff.2 (List.nodup_cons.2 ⟨p,j.2.2.2⟩)⟩,m,fun x l=>?_⟩
   ·have:=pU (uD (ke L) 0 n);rw[Qe]at this;omega
   ·have:=j.2.1;omega
   ·rcases qL.1 (d.mem_iff.1 l) with e|e
    ·omega
    ·exact j.2.2.1 x e
   ·exact qL.1 (d.mem_iff.1 l)
theorem nD{L:LvL}{k:Int}(h:ki L k=0):bq L/\0<=k/\k<=4/\js L k=L.getD k.toNat []/\0<(js L k).length:=by
 have d:=h;unfold ki at d;split at d
 ·cases d
 ·rename_i c;split at d
  ·cases d
  ·rename_i c2;have e:js L k=(ke L).getD k.toNat []:=(by unfold js;rw[qV h]);refine⟨of_decide_eq_true (by cases i:yT L with | true=>exact i | false=>exact absurd (qX i) c), ?_, ?_,by rw[e,lE],by rw[e];exact List.length_pos_iff.2 c2⟩
   ·exact Int.not_lt.1 fun e=>c (qY (qX e))
   ·exact Int.not_lt.1 fun e=>c (qY (qY e))
theorem KD{L:LvL}{k n:Int}(h:vw L k n=0):bq (kN L k n)/\(kN L k n).flatten.length+(js L k).length=L.flatten.length+1/\∀x∈(kN L k n).flatten,x=n∨x∈L.flatten:=by
 have d:=h;unfold vw at d;split at d
 ·rename_i c;exact absurd d c
 ·rename_i c;split at d
  ·cases d
  ·rename_i c2;obtain⟨l,z,A,r,-⟩:=nD (L:=L) (k:=k) (by omega);have u:¬n<0:=fun e=>c2 (qX e)
   have q:n ∉ L.flatten:=fun e=>c2 (qY e)
   unfold kN;rw[qV h];have o:=pY l.1;obtain⟨j,s⟩:=FY (L:=ke L) (k:=k.toNat) (by omega);rw[lE,<-r,nC]at s;rw[nC]at j;have i:=sC n (L:=(ke L).set k.toNat []) (k:=toL k.toNat) (by rw[List.length_set,o];exact KB _);rw[<-lF (uD ((ke L).set k.toNat []) (toL k.toNat) n)]at i;have p:=i.length_eq;rw[qk]at p;have y:0<(js L k).length:=(nD (L:=L) (k:=k) (by omega)).2.2.2.2;refine⟨⟨?_, ?_,fun x m=>?_,i.nodup_iff.2 (List.nodup_cons.2 ⟨fun e=>q (j.subset e),j.nodup l.2.2.2⟩)⟩,by omega,fun x m=>?_⟩
   ·have:=pU (uD ((ke L).set k.toNat []) (toL k.toNat) n);rw[Qe,List.length_set]at this;omega
   ·have:=l.2.1;omega
   ·rcases qL.1 (i.mem_iff.1 m) with e|e
    ·omega
    ·exact l.2.2.1 x (j.subset e)
   ·rcases qL.1 (i.mem_iff.1 m) with e|e
    ·exact qX e
    ·exact qY (j.subset e)
def mU(s:List Int)(m:Nat):Prop:=∀i,i<m->0<=s.getD i 0/\(0<i->s.getD i 0≠s.getD (i-1) 0)
def yL(l:List Int):List Int:=l.mergeSort fun x y=>decide (x<=y)
theorem pG(l:List Int):(yL l).length=l.length:=(List.mergeSort_perm l _).length_eq
theorem FU(l:List Int):∀i j:Nat,(hi:i<(yL l).length)->(d:j<(yL l).length)->i<j->(yL l)[i]<=(yL l)[j]:=by
 have h:=List.pairwise_mergeSort (le:=fun x y:Int=>decide (x<=y)) (fun a b c m o=>by simp at*;omega) (fun a b=>by simp;omega) l;intro i j hi d k;exact of_decide_eq_true (List.pairwise_iff_getElem.1 h i j hi d k)
theorem FG(l:List Int):mU (yL l) (yL l).length↔(∀x∈l,0<=x)/\l.Nodup:=by
 have m:(yL l).Perm l:=List.mergeSort_perm l _;have q:=FU l;constructor
 ·intro h;refine⟨fun x r=>?_,m.nodup_iff.1 ?_⟩
  ·obtain⟨i,d,rfl⟩:=List.getElem_of_mem (m.mem_iff.2 r);have:=(h i d).1
   rwa [qz,qC d]at this
  ·refine List.pairwise_iff_getElem.2 fun i j d o z=>?_
   have k:=(h j o).2 (by omega);rw[qz,qC o,qz,qC (show j-1<(yL l).length by omega)]at k;have u:(yL l)[j]≠(yL l)[j-1]:=k;have p:=q (j-1) j (by omega) o (by omega)
   have y:(yL l)[i]<=(yL l)[j-1]:=by
    rcases Nat.lt_or_ge i (j-1) with c|c
    ·exact q i (j-1) d (by omega) c
    ·have:i=j-1:=(by omega);subst this;exact Int.le_refl _
   omega
 ·rintro ⟨k,p⟩ i d;refine⟨?_,fun s=>?_⟩
  ·rw[qz,qC d];exact k _ (m.mem_iff.1 (List.getElem_mem d))
  ·rw[qz,qC d,qz,qC (show i-1<(yL l).length by omega)];have:=List.pairwise_iff_getElem.1 (m.nodup_iff.2 p) (i-1) i (by omega) d (by omega);exact fun e=>this e.symm
end
section
open Go.RowKit Go.Shelf
def KE(K:Nat)(w:World)(e:Ending)(w':World):Prop:=e = .returned (.int .i64 (K:Nat))/\Below w.heap.size w w'
theorem FW(f:FuncId)(y z:Value)(n K:Nat)(w:World)(U:n<=1000000)(H:K<=n)(D:Enters prog f)
  (s:∀(i:Nat) (W:World),i<n->Below w.heap.size w W->Calls prog f #[.int .i64 (i:Nat),y,z] W fun e C=>e = .returned (.bool (decide (K<=i)))/\Below W.heap.size W C):
  Calls prog 135 #[.int .i64 (n:Nat),.func (.func f) #[] #[y,z]] w (KE K w):=by
 have A:=qQ s;unfold Enters at D;clear s;go_enter func135,ntmps135;go_wp2;go_loopw [5,6] (fun o l wr=>∃a b:Nat,a<=K/\K<=b/\b<=n/\o = .int .i64 a/\l = .int .i64 b/\Below w.heap.size w wr) (fun o l _=>(intOf l).toNat-(intOf o).toNat)
 case atStart=>exact⟨0,n,qF _,H,qK _,rfl,rfl,Below.refl _ _⟩
 case round =>
  obtain⟨a,b,I,M,J,rfl,rfl,j⟩:=hrel;by_cases S:a<b
  ·obtain⟨d,u⟩:∃d,d=(a+b)/2:=⟨_,rfl⟩
   have O:a<=d:=(by omega);have Q:d<b:=(by omega);have V:(a:Int)<(b:Int):=(by omega);have T:((a:Int)+(b:Int))/2=(d:Int):=(by omega);have L:d<n:=(by omega);have R:(d:Int)<=1000000:=(by omega);have k:=A.out d wr L j;cases m:decide (K<=d)
   all_goals
    rw[m]at k;have B:=qQ k;have p:=qQ m;have N:=qQ u;clear m k u;go_wp2_with fail;refine B.out.mono ?_;rintro e X⟨rfl,q⟩;have r:=bj j q;clear j q;go_wp2;go_roundw
    case rel =>
     first
     | exact⟨d+1,b,by have:=of_decide_eq_false p.out;omega,M,J,by go_num,rfl,r⟩
     | exact⟨a,d,I,of_decide_eq_true p.out,by omega,rfl,by go_num,r⟩
    case measure=>simp[intOf];omega
  ·obtain rfl:a=b:=(by omega);obtain rfl:a=K:=(by omega);go_wp2;go_ret;exact⟨rfl,j⟩
end
section
open Go.RowKit
theorem KF(b:Nat)(w:World):(callFunc 282 #[.int .u64 (b:Nat)]).run prog w = .ok (.value (.float .f64 b)) w:=by
 rw[run_callFunc_extern func282 (by kernel_rfl) (by kernel_rfl) (by kernel_rfl) (e:=Extern.MathFloatBits.float64frombits) (by kernel_rfl)];rfl
end
end Go.Proofs.YtokbfellcadkpaaGreat

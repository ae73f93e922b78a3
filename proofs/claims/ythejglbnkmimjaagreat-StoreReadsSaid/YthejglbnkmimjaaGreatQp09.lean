import Derived.Sort.Walk0
import Derived.Sort.KeysCollected
import Derived.Deep.AppendSrc
import Derived.Test.YthejglbnkmimjaaGreatQp07
import Derived.Test.YthejglbnkmimjaaGreatQp06
set_option linter.unusedVariables false
set_option maxRecDepth 100000
set_option maxHeartbeats 9000000
namespace Go.Proofs.YthejglbnkmimjaaGreat
open Proofs.Tryz
section
open Go.RowKit
theorem nY(a b:Tw):vD a b=true↔a.data.toList<b.data.toList:=by
 unfold vD;rw[bytesLess_eq,ByteArray.toList_eq,ByteArray.toList_eq];exact decide_eq_true_iff
theorem GQ{a b:Tw}(h:a.data.toList=b.data.toList):a=b:=qi (Array.toList_inj.1 h)
theorem oO(a:Tw):¬vD a a=true:=fun h=>List.lt_irrefl _ ((nY a a).1 h)
theorem JQ{a b c:Tw}(h:vD a b=true)(k:vD b c=true):vD a c=true:=(nY a c).2 (List.lt_trans ((nY a b).1 h) ((nY b c).1 k))
theorem S5{a b:Tw}(h:¬vD a b=true)(i:a≠b):vD b a=true:=by
 rw[nY]at h ⊢;have f:b.data.toList<=a.data.toList:=List.not_lt.1 h;rcases Decidable.em (b.data.toList<a.data.toList) with c|c
 ·exact c
 ·exact absurd (GQ (List.le_antisymm (List.not_lt.1 c) f)) i
def gA(l:List jI):Prop:=l.Pairwise (fun x y=>vD x.name y.name=true)
theorem gA.ne{l:List jI}(h:gA l){i j:Nat}{x y:jI}(hi:l[i]? = some x)(a:l[j]? = some y)(f:i<j):vD x.name y.name=true:=by
 have b:=(qO.1 a).1;have:=xY.1 h i j (by omega) b f;rw[qD (by omega)]at hi;rw[qD b]at a;injection hi with hi;injection a with a;rw[hi,a]at this;exact this
theorem rG{l:List jI}{n:Tw}(h:¬j8 l n<l.length):∀x∈l,x.name≠n:=by
 intro x b e;obtain⟨j,a⟩:=qd b;have:=Hy a e;have:=(qO.1 a).1;omega
theorem S6(l:List jI)(n:Tw):∀x∈l.take (yV l n),vD x.name n=true:=by
 intro x k;obtain⟨j,a⟩:=qd k;have b:=(qO.1 a).1;rw[qT]at b;rw[List.getElem?_take,qV (by omega),qD (by omega)]at a;injection a with a;have:=List.not_of_lt_findIdx (p:=fun f=>!vD f.name n) (xs:=l) (i:=j) (by unfold yV at b;omega);rw[a]at this;simpa using this
theorem S7(l:List jI)(n:Tw)(r:gA l)(q:∀x∈l,x.name≠n):∀x∈l.drop (yV l n),vD n x.name=true:=by
 intro x s;obtain⟨j,a⟩:=qd s;rw[List.getElem?_drop]at a;have u:=(qO.1 a).1;have b:yV l n<l.length:=by omega
 have o:l.findIdx (fun f=>!vD f.name n)<l.length:=b;have k:=List.findIdx_getElem (p:=fun f=>!vD f.name n) (xs:=l) (w:=o)
 have m:¬vD (l[yV l n]).name n=true:=by
  have:(!vD (l[yV l n]).name n)=true:=k;simpa using this
 have i:=S5 m (q _ (List.getElem_mem b));rcases Nat.eq_zero_or_pos j with rfl|t
 ·rw[Nat.add_zero,qD b]at a;injection a with a;rw[<-a];exact i
 ·exact JQ i (r.ne (qD b) a (by omega))
theorem GX{l:List jI}(k:gA l)(f:jI)(p:∀x∈l,x.name≠f.name):gA (kL l f):=by
 unfold kL gA;have m:=S6 l f.name;have n:=S7 l f.name k p;have q:(l.take (yV l f.name)).Pairwise (fun x y=>vD x.name y.name=true):=List.Pairwise.sublist (List.take_sublist _ _) k;have o:(l.drop (yV l f.name)).Pairwise (fun x y=>vD x.name y.name=true):=List.Pairwise.sublist (List.drop_sublist _ _) k;rw[qn];refine List.pairwise_append.2 ⟨q,List.pairwise_append.2 ⟨List.pairwise_singleton _ _,o,fun a j b i=>?_⟩,fun a j b i=>?_⟩
 ·obtain rfl:a=f:=by simpa using j
  exact n b i
 ·rcases qE.1 i with i|i
  ·obtain rfl:b=f:=(by simpa using i);exact m a j
  ·exact JQ (m a j) (n b i)
theorem JX{l:List jI}(q:gA l)(i:Nat):gA (kx l i):=by
 unfold kx gA;have e:l=l.take i++l.drop i:=(qe i l).symm;have j:(l.take i++l.drop i).Pairwise (fun x y=>vD x.name y.name=true):=by rw[qe];exact q
 obtain⟨k,m,n⟩:=List.pairwise_append.1 j;have f:(l.drop (i+1)).Sublist (l.drop i):=by rw[<-List.drop_drop];exact List.drop_sublist _ _
 exact List.pairwise_append.2 ⟨k,m.sublist f,fun a o b p=>n a o b (f.subset p)⟩
theorem Sq{l:List jI}(m:gA l){i:List (List UInt8)}(k:i.Perm (l.map (fun f=>f.name.data.toList))):i.mergeSort (fun x y=>decide (x<=y))=l.map (fun f=>f.name.data.toList):=by
 have j:i.mergeSort leB=(l.map (fun f=>f.name.data.toList)).mergeSort leB:=mergeSort_of_perm k;refine Eq.trans j (List.mergeSort_of_pairwise ?_);refine List.pairwise_map.2 (m.imp fun {a b} h=>?_);show decide (a.name.data.toList<=b.name.data.toList)=true;exact qB (List.le_of_lt ((nY _ _).1 h))
theorem GZ{l:List jI}(i:gA l):(l.map (fun f=>f.name.data.toList)).Nodup:=by
 refine List.pairwise_map.2 (i.imp fun {a b} h e=>?_);have:=(nY _ _).1 h;rw[e]at this;exact List.lt_irrefl _ this
theorem GJ{l:List jI}(f:gA l):l.Pairwise (fun x y=>x.name≠y.name):=f.imp fun {a b} h e=>by rw[e]at h;exact oO _ h
end
section
open Go.RowKit
open Go.Maps (Keyed)
def gC: Value->Option (DataW Unit × List MemPlace)
 | .pointer none=>some (.lit (.int .i64 (-1)),[])
 | .pointer (some ⟨b,0,none⟩)=>some (.lit (.int .i64 (b:Int)),[])
 | _=>none
theorem QJ{v:Value}{y:DataW Unit × List MemPlace}(h:gC v=some y):(v=.pointer none/\y.1=.lit (.int .i64 (-1)))∨∃b:Nat,v=.pointer (some ⟨b,0,none⟩)/\y.1=.lit (.int .i64 (b:Int)):=by
 unfold gC at h;split at h
 ·injection h with h;subst h;exact qX ⟨rfl,rfl⟩
 ·rename_i b;injection h with h;subst h;exact qY ⟨b,rfl,rfl⟩
 ·cases h
def yF(n:Tw):Lit:=.string n.data.toList
theorem oP{a b:Tw}(h:yF a=yF b):a=b:=by unfold yF at h;injection h with h;exact GQ h
theorem JZ{n:Tw}(h:n.size<=maxLen):keyOf prog 9 (.string n)=some (yF n):=Go.WideMaps.keyOf_string_mk Tryz.underlying9 h
theorem GK(n:Tw):WideAt.IsKeyLit (yF n):=trivial
theorem nU: Keyed prog 9:=Maps.string_keyed Tryz.underlying9
theorem Sx(w:World):(zeroValue 149).run prog w=.ok (.pointer none) w:=by kernel_rfl
structure fC(D0:DataW Unit)(L:List (Tw × Nat)):Prop where
 yes:∀x∈L,∀zd,D0.atKey (yF x.1) zd=.lit (.int .i64 (x.2:Int))
 no:∀n:Tw,(∀x∈L,x.1≠n)->Maps.has D0 (yF n)=false
def vp(w:World)(mb:Nat)(L:List (Tw × Nat)):Prop:=∃n D0,w.ownsMap prog 9 gC mb n D0/\fC D0 L
section
variable {w w':World}{mb:Nat}{L L':List (Tw × Nat)}{D0:DataW Unit}{F:List Nat}
theorem Sz{n:Nat}(h:w.ownsMap prog 9 gC mb n D0)(k:jH F w w')(j:mb ∉ F):w'.ownsMap prog 9 gC mb n D0:=by
 have i:=h.lt;obtain⟨b,a,f,r⟩:=h;exact⟨b,a,(k.block mb i j).trans f,r⟩
theorem vp.xC(h:vp w mb L)(i:jH F w w')(f:mb ∉ F):vp w' mb L:=by
 obtain⟨n,D0,a,b⟩:=h;exact⟨n,D0,Sz a i f,b⟩
theorem vp.lt(h:vp w mb L):mb<w.1.size:=by
 obtain⟨n,D0,a,b⟩:=h;exact a.lt
theorem vp.ne{g:Nat}{t:TypeId}{cs:Array Value}(h:vp w mb L)(b:jF w g t cs):mb≠g:=by
 rintro rfl;obtain⟨n,D0,⟨i,f,a,_⟩,_⟩:=h;unfold jF at b;rw[b]at a;cases a
theorem vp.own_ne{base size n:Nat}{e:TypeId}{v:Value}{xs:List Value}(h:vp w mb L)(j:w.ownsRow base e size v n xs):v.ownBlock≠some mb:=by
 intro b;rcases j.2 with⟨rfl,_⟩|⟨a,k,f,rfl,_,i,_⟩
 ·cases b
 ·obtain rfl:a=mb:=by simpa[Value.ownBlock] using b
  exact h.ne (show jF w a e f from i) rfl
theorem fC.has(h:fC D0 L){x:Tw × Nat}(a:x∈L):Maps.has D0 (yF x.1)=true:=Maps.has_true_of_atKey (h.yes x a)
theorem fC.mem(h:fC D0 L){n:Tw}(a:Maps.has D0 (yF n)=true):∃x∈L,x.1=n:=by
 rcases Classical.em (∃x∈L,x.1=n) with c|c
 ·exact c
 ·have:=h.no n (fun x b e=>c ⟨x,b,e⟩);rw[a]at this;cases this
theorem GV{n:Nat}(h:w.ownsMap prog 9 gC mb n D0){m:Tw}(k:m.size<=maxLen):
  ∃v l,(Instr.lookup 80 (.map (some mb)) (.string m) false).run prog w=.ok v w/\gC v=some (D0.atKey (yF m) (.lit (.int .i64 (-1))),l):=by
 obtain⟨p,o,j,F,_,rfl⟩:=h;rcases Maps.fit_look false nU Tryz.underlying80 (Sx w) j F (JZ k) with⟨b,_,a⟩|⟨f,y,_,_,b,i,a,_⟩
 ·exact⟨_,[],b,by rw[a];rfl⟩
 ·exact⟨f.val,y.2,b,by rw[a];exact i⟩
theorem vp.look(h:vp w mb L){m:Tw}(k:m.size<=maxLen){b:Nat}(o:(m,b)∈L):
  (Instr.lookup 80 (.map (some mb)) (.string m) false).run prog w=.ok (.pointer (some ⟨b,0,none⟩)) w:=by
 obtain⟨n,D0,i,j⟩:=h;obtain⟨v,p,l,a⟩:=GV i k;rw[j.yes (m,b) o]at a;rcases QJ a with⟨rfl,e⟩|⟨f,rfl,e⟩
 ·simp only[DataW.lit.injEq,Lit.int.injEq,true_and]at e;omega
 ·simp only[DataW.lit.injEq,Lit.int.injEq,true_and]at e;obtain rfl:b=f:=by omega
  exact l
theorem vp.zk(h:vp w mb L){m:Tw}(i:m.size<=maxLen)(k:∀x∈L,x.1≠m):
  (Instr.lookup 80 (.map (some mb)) (.string m) false).run prog w=.ok (.pointer none) w:=by
 obtain⟨n,D0,b,f⟩:=h;obtain⟨v,o,j,a⟩:=GV b i;rw[Maps.atKey_of_not_has (f.no m k)]at a;rcases QJ a with⟨rfl,e⟩|⟨l,rfl,e⟩
 ·exact j
 ·simp only[DataW.lit.injEq,Lit.int.injEq,true_and]at e;omega
theorem fC.keys{n:Nat}(h:fC D0 L)(j:w.ownsMap prog 9 gC mb n D0)(k:(L.map (fun x=>x.1.data.toList)).Nodup):(L.map (fun x=>x.1.data.toList)).Perm (strKeys D0):=by
 obtain⟨q,e,f,_⟩:=j.entries nU;obtain⟨r,b,l⟩:=j.keysOf;rw[e]at b;injection b with b;subst b;rw[e];refine perm_strKeys f (fun p f=>?_) k (fun x=>?_)
 ·obtain⟨v,o⟩:=l p f;obtain⟨x,_,a,_⟩:=Maps.keyOf_str Tryz.underlying9 o;exact⟨x,a⟩
 ·rw[<-e];constructor
  ·intro a;obtain⟨y,i,rfl⟩:=qP.1 a;exact h.has i
  ·intro a;obtain⟨y,i,m⟩:=h.mem (n:=⟨x.toArray⟩) (by unfold yF;simpa using a);exact qP.2 ⟨y,i,by rw[m]⟩
theorem fC.size{n:Nat}(h:fC D0 L)(b:w.ownsMap prog 9 gC mb n D0)(f:(L.map (fun x=>x.1.data.toList)).Nodup):Maps.size D0=L.length:=by
 have:=(h.keys b f).length_eq;obtain⟨a,e,_⟩:=b.entries nU;rw[e]at this ⊢;rw[qz]at this;show a.length=_;rw[this];show _=(a.map _).length;rw[qz]
theorem vp.len(h:vp w mb L)(i:(L.map (fun x=>x.1.data.toList)).Nodup)(b:TypeId):(Builtin.len_ #[80] b #[.map (some mb)]).run prog w=.ok (.int .i64 (L.length:Nat)) w:=by
 obtain⟨n,D0,a,f⟩:=h;rw[a.len Tryz.underlying80 b,f.size a i]
theorem Sj{n:Nat}(i:w.ownsMap prog 9 gC mb n D0):w.ownsMap prog 9 gC mb (Maps.size D0) D0:=by
 obtain⟨a,b,f,F,j,rfl⟩:=i;refine⟨a,b,f,F, ?_,rfl⟩;exact Nat.le_of_eq (length_read (R0:=gC) a).symm
theorem vp.store(h:vp w mb L)(t:(L.map (fun x=>x.1.data.toList)).Nodup)(J:L.length<=400){m:Tw}(y:m.size<=maxLen){b:Nat}
  (p:(m,b)∈L') (q:∀x∈L',x=(m,b)∨(x∈L/\x.1≠m)) (r:∀x∈L,x.1≠m->x∈L'):
  ∃w',(Instr.mapUpdate 80 (.map (some mb)) (.string m) (.pointer (some ⟨b,0,none⟩))).run prog w=.ok () w'/\vp w' mb L'/\jH [mb] w w':=by
 obtain⟨n,D0,i,f⟩:=h;have B:=f.size i t;obtain⟨w',A,z,C⟩:=(Sj i).store nU Tryz.underlying80 (by rw[B];unfold maxLen;omega) (JZ y) (val:=.pointer (some ⟨b,0,none⟩)) rfl;refine⟨w',A,⟨_,_,z,⟨fun x j I=>?_,fun s l=>?_⟩⟩,(jH.refl [mb] w).grown C.grown (fun k u=>qX (by simpa using u.symm))⟩
 ·rcases q x j with rfl|⟨H,a⟩
  ·exact Maps.atKey_put_same i.isMap (GK _) _ _
  ·rw[Maps.atKey_put_other (fun e=>a (oP e))];exact f.yes x H I
 ·have a:m≠s:=l (m,b) p;rw[Maps.has_put_other (fun e=>a (oP e).symm)];refine f.no s (fun x j e=>?_);exact l x (r x j (fun o=>a (o.symm.trans e))) e
theorem vp.drop(h:vp w mb L){m:Tw}(p:m.size<=maxLen)(j:∀x∈L',x∈L/\x.1≠m)(l:∀x∈L,x.1≠m->x∈L')(ty:TypeId):
  ∃w',(Builtin.delete_ #[80,9] ty #[.map (some mb),m]).run prog w=.ok (.tuple #[]) w'/\vp w' mb L'/\jH [mb] w w':=by
 obtain⟨n,D0,q,f⟩:=h;obtain⟨w',t,r,y⟩:=q.drop nU Tryz.underlying80 (JZ p) ty;refine⟨w',t,⟨_,_,r,⟨fun x b A=>?_,fun s u=>?_⟩⟩,(jH.refl [mb] w).grown y.grown (fun k o=>qX (by simpa using o.symm))⟩
 ·obtain⟨z,a⟩:=j x b;rw[Maps.atKey_del_other (fun e=>a (oP e))];exact f.yes x z A
 ·rcases Decidable.em (s=m) with rfl|a
  ·exact Maps.has_del_same
  ·rw[Maps.has_del_other (fun e=>a (oP e))];refine f.no s (fun x b e=>?_);exact u x (l x b (fun i=>a (e.symm.trans i))) e
end
theorem vp.made(w:World)(o:Obj)(a:o=.map #[] 0):vp (w.alloc o) w.1.size []:=by
 subst a;exact⟨_,_,World.ownsMap_made _ _ _ _,⟨fun x b=>(by cases b),fun n _=>rfl⟩⟩
end
section
open Go.RowKit
theorem Sk(d:Tw)(j:Nat):(byteCells d)[j]? = (d.data[j]?).map (fun b=>Value.int .u8 (b.toNat:Int)):=by
 unfold byteCells;rw[qu,Array.getElem?_toList]
theorem Sv(d s:Tw):byteCells (d++s)=byteCells d++byteCells s:=by
 unfold byteCells;rw[ByteArray.data_append,Array.toList_append,List.map_append]
theorem Sy(d:Tw)(m:Nat):byteCells (d.extract 0 m)=(byteCells d).take m:=by
 unfold byteCells;rw[ByteArray.data_extract,Array.toList_extract,<-List.map_take];simp
theorem Su(d:Tw):∀u∈byteCells d,u.oneCell'=true:=by
 intro u a;obtain⟨b,_,rfl⟩:=qP.1 a;rfl
abbrev bq(w:World)(base:Nat)(v:Value)(d:Tw):Prop:=w.ownsRow base 5 1 v d.size (byteCells d)
theorem Sg(w:World)(base:Nat):bq w base (.slice none 0 0) ByteArray.empty:=World.ownsRow_nil w base _ 1
section
variable {w:World}{base:Nat}{v:Value}{d:Tw}
theorem mQ(h:bq w base v d):∃A a,v=.slice A d.size a/\d.size<=a/\a<=maxLen/\(0<a->∃b,A=some ⟨b,0,none⟩/\base<=b/\b<w.1.size)/\(a=0->d.size=0):=by
 rcases h.2 with⟨rfl,e⟩|⟨g,a,k,rfl,j,o,f,i,m,n⟩
 ·exact⟨none,0,by rw[e],by omega,qI _,fun h=>absurd h (by omega),fun _=>e⟩
 ·exact⟨_,a,rfl,f,i,fun _=>⟨g,rfl,j,(h.lt g rfl).2⟩,fun l=>by omega⟩
theorem Sb{A:Option Addr}{a:Nat}(h:bq w base (.slice A d.size a) d){m:Nat}(r:m<=d.size):bq w base (.slice A m a) (d.extract 0 m):=by
 have n:(d.extract 0 m).size=m:=by rw[qk];omega
 unfold bq;rw[n,Sy];refine⟨by rw[qT,h.1];omega, ?_⟩;rcases h.2 with⟨e,p⟩|⟨g,o,b,e,k,l,q,f,i,j⟩
 ·injection e with e e3 e4;exact qX ⟨by rw[e,e4,show m=0 by omega],by omega⟩
 ·simp only[Value.slice.injEq,true_and]at e;obtain⟨rfl,rfl⟩:=e;refine qY ⟨g,a,b,rfl,k,l,by omega,f,i, ?_⟩;rw[<-j,List.take_take];congr 1;omega
theorem Sc: (prog.info? 5).map (fun i=>(i.zero,i.size,i.bytes))=some (some (.int .u8 0),1,1):=by kernel_rfl
theorem Sd(h:bq w base v d)(s:Tw)(hs:d.size+s.size<=1099511627776)(Q:base<=w.1.size)(ty:TypeId):
  ∃r w',(Builtin.append_ #[154,9] ty #[v,s]).run prog w=.ok r w'/\bq w' base r (d++s)/\w.grownBy w' v.ownBlock/\(r.ownBlock=v.ownBlock∨r.ownBlock=some w.1.size):=by
 obtain⟨i,p,N,q,O⟩:=info_parts Sc;have f:Src prog i.size 9 (.string s) s.size (byteCells s) w:=by rw[q];exact Src.ofString w Tryz.underlying9 s
 have Y:(d++s).size=d.size+s.size:=qx;have V:(byteCells d).length=d.size:=byteCells_length d;have J:(byteCells s).length=s.size:=byteCells_length s;unfold bq;rw[Y,Sv];have n:(byteCells d++byteCells s).length=(d.size+s.size)*1:=by rw[qN,V,J];omega
 have grown:∀(b:Nat),b<d.size+s.size->∀(row:Option Nat),
   (w.drew.alloc (.cells ((byteCells d++byteCells s).toArray++Builtin.zeroCells (Value.int .u8 0).cells (grownCap w (d.size+s.size) b 5-(d.size+s.size))) 5)).ownsRow base 5 1
    (.slice (some ⟨w.1.size,0,none⟩) (d.size+s.size) (grownCap w (d.size+s.size) b 5)) (d.size+s.size) (byteCells d++byteCells s) /\
   w.grownBy (w.drew.alloc (.cells ((byteCells d++byteCells s).toArray++Builtin.zeroCells (Value.int .u8 0).cells (grownCap w (d.size+s.size) b 5-(d.size+s.size))) 5)) row:=by
  intro b ho row;have U:=grownCap_ge w (d.size+s.size) b 5;have y:grownCap w (d.size+s.size) b 5<=maxLen:=grownCap_le_maxLen w _ b _ (by unfold maxLen;omega);refine⟨⟨n,.inr ⟨w.1.size,_,_,rfl,Q,heap_alloc_new w.drew _,U,y, ?_, ?_⟩⟩,⟨rfl,rfl,rfl,by simp,fun k z _=>Below.heap_alloc w.drew _ k z⟩⟩
  ·rw[Array.size_append,List.size_toArray,size_zeroCells,n];show(d.size+s.size)*1+(_-_)*1=_;omega
  ·rw[Array.toList_append,<-n];exact List.take_left
 rcases h.2 with⟨rfl,e⟩|⟨g,a,m,rfl,R,I,Z,y,S,W⟩
 ·by_cases A:s.size=0
  ·have t:byteCells d=[]:=List.eq_nil_of_length_eq_zero (by omega);have B:byteCells s=[]:=List.eq_nil_of_length_eq_zero (by omega);refine⟨.slice none 0 0,w, ?_,by rw[t,B,e,A];exact World.ownsRow_nil w base _ 1,⟨rfl,rfl,rfl,qK _,fun _ _ _=>rfl⟩,qX rfl⟩;have H:=f.len w;have C:=f.cells;rw[A,B]at C;rw[A]at H;simp[Builtin.append_,run_underlying Tryz.underlying154,run_underlying Tryz.underlying9,sizeOf,typeInfo,p,H,C]
  ·have o:=run_append_grow_src (P:=prog) w 154 9 ty 5 i _ Tryz.underlying154 p N none 0 0 [] (by simp[Builtin.firstCells]) (.string s) s.size (byteCells s) f (by omega) (by omega) (growslice_fits (by omega) (by rw[O];omega));have t:byteCells d=[]:=List.eq_nil_of_length_eq_zero (by omega);have l:=grown 0 (by omega) (Value.ownBlock (.slice none 0 0));rw[t,e]at l ⊢;exact⟨_,_,o,l.1,l.2,qY rfl⟩
 ·by_cases M:d.size+s.size<=a
  ·have T:d.size*i.size+(byteCells s).length<=m.size:=(by rw[J,S,q];omega);have hst:=run_storeCells_at prog g (d.size*i.size) 5 (byteCells s) 0 m w I (by simpa using T) (Su s);simp only[Nat.add_zero]at hst
   have o:(Builtin.append_ #[154,9] ty #[.slice (some ⟨g,0,none⟩) d.size a,s]).run prog w=.ok (.slice (some ⟨g,0,none⟩) (d.size+s.size) a) (w.setRow g (m.toList.take (d.size*i.size)++byteCells s++m.toList.drop (d.size*i.size+(byteCells s).length)).toArray):=by
    simp[Builtin.append_,run_underlying Tryz.underlying154,run_underlying Tryz.underlying9,sizeOf,typeInfo,p,f.len,f.cells,M,Addr.add_lit,hst]
   refine⟨_,_,o,⟨n,.inr ⟨g,a,_,rfl,R,setRow_heap w g m _ _ _ I,M,y, ?_, ?_⟩⟩,⟨rfl,rfl,rfl,by simp,fun k _ z=>setRow_other w g k _ (fun e=>z (by simp[Value.ownBlock,e]))⟩,qX rfl⟩
   ·simp only[List.size_toArray,List.length_append,List.length_take,List.length_drop,Array.length_toList];omega
   ·rw[q,W,<-n];exact List.take_left
  ·have o:=run_append_grow_src (P:=prog) w 154 9 ty 5 i _ Tryz.underlying154 p N (some ⟨g,0,none⟩) d.size a (byteCells d)
    (by rw[q];exact run_firstCells_some w.drew 1 d.size ⟨g,0,none⟩ d.size a (byteCells d) (by omega) (fun j u X=>h.cells rfl j u X)) (.string s) s.size (byteCells s) f (by omega) (by omega) (growslice_fits (by omega) (by rw[O];omega))
   have l:=grown a (by omega) (Value.ownBlock (.slice (some ⟨g,0,none⟩) d.size a));exact⟨_,_,o,l.1,l.2,qY rfl⟩
theorem GY(w:World)(A:Option Addr)(c:Nat):(convert 154 9 (.slice A 0 c)).run prog w=.ok (.string ByteArray.empty) w:=by
 cases A with
 | none=>exact run_convert_bytes_nil w 154 5 Tryz.underlying154 Tryz.underlying5 0 c 9 Tryz.underlying9
 | some a=>exact run_convert_bytes_back w 154 9 5 a c [] Tryz.underlying154 Tryz.underlying5 Tryz.underlying9 (fun j b=>absurd b (Nat.not_lt_zero j))
theorem Sf{b i n:Nat}(h:bq w base (.slice (some ⟨b,0,none⟩) n i) d){a k:Nat}(s:a+k<=d.size)(c:Nat):
  (convert 154 9 (.slice (some ⟨b,a,none⟩) k c)).run prog w=.ok (.string (d.extract a (a+k))) w:=by
 obtain rfl:n=d.size:=by
  rcases h.2 with⟨e,q⟩|⟨g,o,p,e,_⟩
  ·cases e
  ·simp only[Value.slice.injEq]at e;exact e.2.1
 have m:(d.extract a (a+k)).data.toList.length=k:=by
  rw[Array.length_toList];show(d.extract a (a+k)).size=k;rw[qk];omega
 have f:=run_convert_bytes_back (P:=prog) w 154 9 5 ⟨b,a,none⟩ c (d.extract a (a+k)).data.toList Tryz.underlying154 Tryz.underlying5 Tryz.underlying9
  (fun j r=>by
   have l:(⟨b,a,none⟩:Addr).add j=⟨b,a+j,none⟩:=(by unfold Addr.add;split<;>simp_all);have t:d.data.size=d.size:=rfl;rw[l,h.cellAt (a+j) (by omega),Sk,Array.getElem?_eq_getElem (by omega),Option.map_some];congr 3;rw[Array.getElem_toList];simp only[ByteArray.data_extract,Array.getElem_extract])
 rw[m]at f;exact f
end
structure Ent where
 f:jI
 b:Nat
 v:Value
def Ent.nb(x:Ent):Tw × Nat:=(x.f.name,x.b)
def Ent.blocks(x:Ent):List Nat:=x.b::x.v.ownBlock.toList
def vA(w:World)(base:Nat)(x:Ent):Prop:=jF w x.b 215 #[x.v,x.f.synced]/\base<=x.b/\bq w base x.v x.f.data
def bx(x y:Ent):Prop:=x.b≠y.b/\∀b,x.v.ownBlock=some b->y.v.ownBlock≠some b
def fD(w:World)(base:Nat)(v:Value)(l:List Int)(K:List Nat):Prop :=
 (l=[]/\K=[]/\∃a c,v=.slice a 0 c)∨(w.ownsRow base 3 1 v l.length (sq l)/\K=v.ownBlock.toList)
def bz(w:World)(base:Nat)(vF:Value)(f:Nat)(keep:List Int)(K:List Nat):Prop :=
 (f=0/\vF=.pointer none/\K=[]) ∨
 ∃(b n:Nat) (i:Value) (a:List Nat),vF=ptr b/\f=n+1/\n<=9223372036854775807/\jF w b 289 #[n,i]/\base<=b/\fD w base i (keep.take 400) a/\K=b::a
def GU(g mb:Nat)(vF:Value)(D:jD):Array Value:=#[ptr g,.int .i64 (D.cap:Nat),.map (some mb),.bool (!D.down),.int .i64 (D.count:Nat),.int .i64 (D.xB:Nat),vF]
structure PAt(w:World)(base g mb:Nat)(vF:Value)(E:List Ent)(K:List Nat)(D:jD):Prop where
 xD:jF w g 83 (GU g mb vF D)
 gb:base<=g
 zY:base<=mb
 xN:D.l=E.map Ent.f
 map:vp w mb (E.map Ent.nb)
 xM:∀x∈E,vA w base x
 apart:E.Pairwise bx
 xH:gA D.l
 names:∀f∈D.l,ks f.name=true
 fail:bz w base vF D.fails D.keep K
def ku(g mb:Nat)(E:List Ent)(K:List Nat):List Nat:=g::mb::(K++E.flatMap Ent.blocks)
def gg: jR:=fun w base g F D=>∃mb vF E K,PAt w base g mb vF E K D/\F=ku g mb E K
section
variable {w w':World}{base:Nat}{G:List Nat}
theorem vA.xC{x:Ent}(h:vA w base x)(f:jH G w w')(a:∀b∈x.blocks,b ∉ G):vA w' base x :=
 ⟨h.1.xC f (a _ (by simp[Ent.blocks])),h.2.1,bw h.2.2 f (fun b i=>a b (by simp[Ent.blocks,i]))⟩
theorem vA.low{x:Ent}(h:vA w base x):∀b∈x.blocks,base<=b/\b<w.1.size:=by
 intro b a;simp only[Ent.blocks,List.mem_cons,Option.mem_toList]at a;rcases a with rfl|a
 ·exact⟨h.2.1,h.1.lt⟩
 ·exact h.2.2.lt b a
theorem fD.xC{v:Value}{l:List Int}{K:List Nat}(h:fD w base v l K)(i:jH G w w')(f:∀b∈K,b ∉ G):fD w' base v l K:=by
 rcases h with h|⟨h,rfl⟩
 ·exact qX h
 ·exact qY ⟨bw h i (fun b a=>f b (by simp[a])),rfl⟩
theorem fD.low{v:Value}{l:List Int}{K:List Nat}(h:fD w base v l K):∀b∈K,base<=b/\b<w.1.size:=by
 rcases h with⟨_,rfl,_⟩|⟨h,rfl⟩
 ·intro b a;cases a
 ·intro b a;exact h.lt b (by simpa using a)
theorem bz.xC{v:Value}{n:Nat}{l:List Int}{K:List Nat}(h:bz w base v n l K)(f:jH G w w')(a:∀b∈K,b ∉ G):bz w' base v n l K:=by
 rcases h with h|⟨b,m,t,i,j,k,o,p,q,r,rfl⟩
 ·exact qX h
 ·exact qY ⟨b,m,t,i,j,k,o,p.xC f (a _ (by simp)),q,r.xC f (fun x s=>a x (by simp[s])),rfl⟩
theorem bz.low{v:Value}{n:Nat}{l:List Int}{K:List Nat}(h:bz w base v n l K):∀b∈K,base<=b/\b<w.1.size:=by
 rcases h with⟨_,_,rfl⟩|⟨b,m,s,o,p,q,r,f,i,j,rfl⟩
 ·intro b k;cases k
 ·intro x a;rcases qL.1 a with rfl|a
  ·exact⟨i,f.lt⟩
  ·exact j.low x a
variable {g mb:Nat}{vF:Value}{E:List Ent}{K:List Nat}{D:jD}
theorem vd{b:Nat}:b∈ku g mb E K↔b=g∨b=mb∨b∈K∨∃x∈E,b∈x.blocks:=by
 simp only[ku,List.mem_cons,List.mem_append,List.mem_flatMap]
theorem PAt.xC(h:PAt w base g mb vF E K D)(f:jH G w w')(a:∀b∈ku g mb E K,b ∉ G):PAt w' base g mb vF E K D :=
 ⟨h.xD.xC f (a _ (vd.2 (qX rfl))),h.gb,h.zY,h.xN,h.map.xC f (a _ (vd.2 (qY (qX rfl)))),
  fun x j=>(h.xM x j).xC f (fun b i=>a b (vd.2 (qY (qY (qY ⟨x,j,i⟩))))),h.apart,h.xH,h.names,h.fail.xC f (fun b i=>a b (vd.2 (qY (qY (qX i)))))⟩
theorem PAt.low(h:PAt w base g mb vF E K D):∀b∈ku g mb E K,base<=b/\b<w.1.size:=by
 intro b a;rcases vd.1 a with rfl|rfl|a|⟨x,f,a⟩
 ·exact⟨h.gb,h.xD.lt⟩
 ·exact⟨h.zY,h.map.lt⟩
 ·exact h.fail.low b a
 ·exact(h.xM x f).low b a
theorem PAt.at(h:PAt w base g mb vF E K D):gg w base g (ku g mb E K) D:=⟨mb,vF,E,K,h,rfl⟩
theorem fD.ne{v:Value}{l:List Int}{b:Nat}{t:TypeId}{cs:Array Value}(h:fD w base v l K)(a:jF w b t cs)(i:3≠t):b ∉ K:=by
 rcases h with⟨_,rfl,_⟩|⟨h,rfl⟩
 ·simp
 ·intro f;exact vJ h a i (by simpa using f)
theorem bz.ne{v:Value}{n:Nat}{l:List Int}{b:Nat}{t:TypeId}{cs:Array Value}(h:bz w base v n l K)(f:jF w b t cs)(k:3≠t)(o:289≠t):b ∉ K:=by
 rcases h with⟨_,_,rfl⟩|⟨q,m,z,p,r,s,u,i,y,j,rfl⟩
 ·simp
 ·intro a;rcases qL.1 a with rfl|a
  ·exact i.xi f o rfl
  ·exact j.ne f k a
theorem bz.xf{v:Value}{n:Nat}{l:List Int}{L:List (Tw × Nat)}(h:bz w base v n l K)(f:vp w mb L):mb ∉ K:=by
 rcases h with⟨_,_,rfl⟩|⟨k,m,s,j,o,p,q,i,r,b,rfl⟩
 ·simp
 ·intro a;rcases qL.1 a with rfl|a
  ·exact f.ne i rfl
  ·rcases b with⟨_,rfl,_⟩|⟨b,rfl⟩
   ·cases a
   ·exact f.own_ne b (by simpa using a)
theorem bz.zn{v:Value}{n:Nat}{l:List Int}{base' size m:Nat}{t:TypeId}{u:Value}{xs:List Value}(h:bz w base v n l K)(j:w.ownsRow base' t size u m xs)(o:t≠3)(p:t≠289):∀b,u.ownBlock=some b->b ∉ K:=by
 intro b i a;rcases h with⟨_,_,rfl⟩|⟨r,m,B,q,s,y,z,k,A,f,rfl⟩
 ·cases a
 ·rcases qL.1 a with rfl|a
  ·exact vJ j k p i
  ·rcases f with⟨_,rfl,_⟩|⟨f,rfl⟩
   ·cases a
   ·exact fT j f o b (by simpa using a) i
theorem vA.ne{x:Ent}{b:Nat}{t:TypeId}{cs:Array Value}(h:vA w base x)(f:jF w b t cs)(i:215≠t)(j:5≠t):b ∉ x.blocks:=by
 intro a;simp only[Ent.blocks,List.mem_cons,Option.mem_toList]at a;rcases a with rfl|a
 ·exact h.1.xi f i rfl
 ·exact vJ h.2.2 f j a
theorem vA.xf{x:Ent}{L:List (Tw × Nat)}(h:vA w base x)(b:vp w mb L):mb ∉ x.blocks:=by
 intro a;simp only[Ent.blocks,List.mem_cons,Option.mem_toList]at a;rcases a with rfl|a
 ·exact b.ne h.1 rfl
 ·exact b.own_ne h.2.2 a
theorem vA.apart{x y:Ent}(i:vA w base x)(j:vA w base y)(h:bx x y):∀b∈x.blocks,b ∉ y.blocks:=by
 intro b f a;simp only[Ent.blocks,List.mem_cons,Option.mem_toList]at f a;rcases f with rfl|f<;>rcases a with a|a
 ·exact h.1 a
 ·exact vJ j.2.2 i.1 (by decide) a
 ·subst a;exact vJ i.2.2 j.1 (by decide) f
 ·exact h.2 b f a
theorem vA.zT{x:Ent}{v:Value}{n:Nat}{l:List Int}(f:vA w base x)(h:bz w base v n l K):∀b∈x.blocks,b ∉ K:=by
 intro b a;simp only[Ent.blocks,List.mem_cons,Option.mem_toList]at a;rcases a with rfl|a
 ·exact h.ne f.1 (by decide) (by decide)
 ·exact h.zn f.2.2 (by decide) (by decide) b a
theorem PAt.zU(h:PAt w base g mb vF E K D){D':jD}{k:Value}{m:List Nat}(f:D'.l=D.l)(a:jF w' g 83 (GU g mb k D'))(o:jH G w w')(n:∀b∈G,b=g∨b∈K)(p:bz w' base k D'.fails D'.keep m):PAt w' base g mb k E m D':=by
 refine⟨a,h.gb,h.zY,by rw[f];exact h.xN,h.map.xC o (fun i=>?_),fun x j=>(h.xM x j).xC o (fun b a i=>?_),h.apart,by rw[f];exact h.xH,by rw[f];exact h.names,p⟩
 ·rcases n _ i with e|e
  ·exact h.map.ne h.xD e
  ·exact h.fail.xf h.map e
 ·rcases n _ i with e|e
  ·exact(h.xM x j).ne h.xD (by decide) (by decide) (by rw[<-e];exact a)
  ·exact(h.xM x j).zT h.fail b a e
theorem PAt.zc(h:PAt w base g mb vF E K D)(i:jH [g] w w'):bz w' base vF D.fails D.keep K :=
 h.fail.xC i (fun b a f=>by
  obtain rfl:b=g:=by simpa using f
  exact h.fail.ne h.xD (by decide) (by decide) a)
theorem PAt.zE(h:PAt w base g mb vF E K D)(c:Bool):PAt (w.setCell ⟨g,3,none⟩ (.bool (!c))) base g mb vF E K { D with down:=c } :=
 h.zU (G:=[g]) rfl (h.xD.put 3 _) ((jH.refl _ w).setCell (qX (by simp)) _) (fun b a=>qX (by simpa using a)) (h.zc ((jH.refl _ w).setCell (qX (by simp)) _))
theorem PAt.jG(h:PAt w base g mb vF E K D)(c:Nat):PAt (w.setCell ⟨g,4,none⟩ (.int .i64 (c:Nat))) base g mb vF E K { D with count:=c } :=
 h.zU (G:=[g]) rfl (h.xD.put 4 _) ((jH.refl _ w).setCell (qX (by simp)) _) (fun b a=>qX (by simpa using a)) (h.zc ((jH.refl _ w).setCell (qX (by simp)) _))
theorem PAt.zw(h:PAt w base g mb vF E K D)(l:List Int):PAt (w.setCell ⟨g,6,none⟩ (.pointer none)) base g mb (.pointer none) E [] { D with fails:=0,keep:=l } :=
 h.zU (G:=[g]) rfl (h.xD.put 6 _) ((jH.refl _ w).setCell (qX (by simp)) _) (fun b a=>qX (by simpa using a)) (qX ⟨rfl,rfl,rfl⟩)
theorem PAt.zP(h:PAt w base g mb vF E K D){k:Nat}{x:Ent}(r:E[k]? = some x)(x':Ent)(q:x'.b=x.b)(Q:x'.f.name=x.f.name)(H:jH G w w')(A:∀b∈G,b∈x.blocks)(T:vA w' base x')
  (hv:∀b,x'.v.ownBlock=some b->x.v.ownBlock=some b∨w.1.size<=b):PAt w' base g mb vF (E.set k x') K { D with l:=D.l.set k x'.f }:=by
 have hx:=qM r;have s:=(qO.1 r).1;have B:=h.xM x hx
 have Z:(E.set k x').map Ent.nb=E.map Ent.nb:=by
  rw[List.map_set];apply xV;intro j;rw[List.getElem?_set];by_cases e:k=j
  ·subst e;rw[qV rfl,qV (by simpa using s),qu,r];show some (x'.f.name,x'.b)=some (x.f.name,x.b);rw[q,Q]
  ·rw[qZ e]
 have O:∀(j:Nat) (y:Ent),j≠k->E[j]? = some y->(∀b∈x.blocks,b ∉ y.blocks)/\bx x' y/\bx y x':=by
  intro j y m t;have P:=h.xM y (qM t);have N:=(qO.1 t).1;have C:=xY.1 h.apart;have u:E[k]=x:=by rw[qD s]at r;simpa using r
  have z:E[j]=y:=by rw[qD N]at t;simpa using t
  have I:bx x y:=by
   rcases qh k j with c|c
   ·have:=C k j s N c;rw[u,z]at this;exact this
   ·have:=C j k N s (by omega);rw[u,z]at this;exact⟨fun e=>this.1 e.symm,fun b n p=>this.2 b p n⟩
  have J:bx x' y:=⟨by rw[q];exact I.1,fun b n p=>by
   rcases hv b n with c|c
   ·exact I.2 b c p
   ·have:=(P.2.2.lt b p).2;omega⟩
  exact⟨B.apart P I,J,⟨fun e=>J.1 e.symm,fun b n p=>J.2 b p n⟩⟩
 have W:g ∉ x.blocks:=B.ne h.xD (by decide) (by decide)
 have Y:∀(j:Nat),((D.l.set k x'.f)[j]?).map jI.name=(D.l[j]?).map jI.name:=by
  intro j;rw[List.getElem?_set];by_cases e:k=j
  ·subst e;rw[qV rfl,qV (by rw[h.xN];simpa using s),h.xN,qu,r];simp[Q]
  ·rw[qZ e]
 have R:(D.l.set k x'.f).map jI.name=D.l.map jI.name:=by
  apply xV;intro j;rw[qu,qu];exact Y j
 refine⟨h.xD.xC H (fun o=>W (A _ o)),h.gb,h.zY,by show D.l.set k x'.f=_;rw[h.xN,List.map_set], ?_,fun y t=>?_, ?_, ?_, ?_,h.fail.xC H (fun b q o=>B.zT h.fail b (A b o) q)⟩
 ·rw[Z];exact h.map.xC H (fun o=>B.xf h.map (A _ o))
 ·obtain⟨j,m⟩:=qd t;rw[List.getElem?_set]at m;by_cases e:k=j
  ·rw[qV e,qV s]at m;obtain rfl:x'=y:=(by simpa using m);exact T
  ·rw[qZ e]at m;exact(h.xM y (qM m)).xC H (fun b q o=>(O j y (fun c=>e c.symm) m).1 b (A b o) q)
 ·rw[xY];intro i j M m X;rw[List.length_set]at M m;rw[List.getElem_set,List.getElem_set];have C:=xY.1 h.apart i j M m X;by_cases u:k=i
  ·rw[qV u,qZ (by omega)];exact(O j _ (by omega) (qD m)).2.1
  ·rw[qZ u];by_cases z:k=j
   ·rw[qV z];exact(O i _ (by omega) (qD M)).2.2
   ·rw[qZ z];exact C
 ·show gA (D.l.set k x'.f);have:(D.l.map jI.name).Pairwise (fun a b=>vD a b=true):=List.pairwise_map.2 h.xH;rw[<-R]at this;exact List.pairwise_map.1 this
 ·intro f U;have n:f.name∈(D.l.set k x'.f).map jI.name:=qP.2 ⟨f,U,rfl⟩;rw[R]at n;obtain⟨S,V,e⟩:=qP.1 n;rw[<-e];exact h.names S V
theorem PAt.zX(h:PAt w base g mb vF E K D)(E':List Ent)(l:List jI)(p:l=E'.map Ent.f)(a:vp w' mb (E'.map Ent.nb))(j:jH [mb] w w')(k:∀x∈E',vA w base x)(n:E'.Pairwise bx)(r:gA l)(q:∀f∈l,ks f.name=true):PAt w' base g mb vF E' K { D with l:=l }:=by
 refine⟨h.xD.xC j (fun o=>h.map.ne h.xD (by have:=qH.1 o;exact this.symm)),h.gb,h.zY,p,a,fun x m=>(k x m).xC j (fun b i a=>?_),n,r,q,h.fail.xC j (fun b i a=>?_)⟩
 ·obtain rfl:b=mb:=by simpa using a
  exact(k x m).xf h.map i
 ·obtain rfl:b=mb:=by simpa using a
  exact h.fail.xf h.map i
end
def ue(chs:List (List Tw)):List Tw:=chs.getLast?.getD []
def vB(chs:List (List Tw)):Nat:=if chs.length=0 then 0 else 4096*(chs.length-1)+(12+kM (ue chs))
def jP(i:Nat):List (List Tw)->List (Nat × Tw)
 | []=>[]
 | ps::r=>uk (4096*i+12) ps++jP (i+1) r
theorem rW: ∀(a b:List (List Tw)) (i:Nat),jP i (a++b)=jP i a++jP (i+a.length) b
 | [],b,i=>rfl
 | x::a,b,i=>by
   show uk _ x++jP (i+1) (a++b)=uk _ x++jP (i+1) a++_;rw[rW a b (i+1),qn,qv,show i+1+a.length=i+(a.length+1) by omega]
theorem QK(i:Nat)(a:List Tw):jP i [a]=uk (4096*i+12) a:=by show uk _ a++[]=_;rw[List.append_nil]
theorem JJ{i j:Nat}(hi:i<=999999)(a:j<=999999)(h:nmC i=nmC j):i=j:=by
 have:=Lt 99 hi a;rw[show nmS 99 (i:Nat)=nmS 99 (j:Nat) from h]at this;simp at this;omega
theorem GG{i:Nat}(h:i<=999999):nmC i≠jr:=fun e=>by
 have a:=oX (c:=99) h;rw[show nmS 99 (i:Nat)=jr from e]at a;exact absurd a (by decide)
theorem mX{i:Nat}(h:i<=999999):isC (nmC i)=true/\npN (nmC i)=i:=by
 obtain⟨a,b,c⟩:=Xv (c:=99) (by decide) h;exact⟨by unfold isC;rw[a,b];rfl,c⟩
theorem Sh{i:Nat}(h:i<=999999):ks (nmC i)=true:=by
 unfold ks;rw[oX h];decide
structure kj(D:jD)(chs:List (List Tw)):Prop where
 up:D.down=false
 fails:D.fails=0
 many:chs.length<=200
 files:∀i ps,chs[i]? = some ps->∃f,jN D.l (nmC i)=some f/\f.data=cW i ps
 small:∀ps∈chs,12+kM ps<=4096/\∀p∈ps,p.size<=2000
 only:∀f∈D.l,isC f.name=true->∃i,i<chs.length/\f.name=nmC i
 xo:jN D.l jr=none
structure uA(D:jD)(L:jq)(chs:List (List Tw)):Prop where
 xB:D.xB=L.xB
 xS:L.chunks=chs.length
 endp:L.endp=vB chs
 sure:L.sure<=L.endp
structure vj(D E:jD):Prop where
 names:E.l.map jI.name=D.l.map jI.name
 data:∀m,(jN E.l m).map jI.data=(jN D.l m).map jI.data
 used:jM E.l=jM D.l
 cap:E.cap=D.cap
 xB:E.xB=D.xB
 down:E.down=D.down
 fails:E.fails=D.fails
theorem vj.refl(D:jD):vj D D:=⟨rfl,fun _=>rfl,rfl,rfl,rfl,rfl,rfl⟩
theorem vj.trans{A B C:jD}(h:vj A B)(k:vj B C):vj A C:=⟨k.names.trans h.names,fun m=>(k.data m).trans (h.data m),k.used.trans h.used,k.cap.trans h.cap,k.xB.trans h.xB,k.down.trans h.down,k.fails.trans h.fails⟩
theorem vj.count(D:jD)(c:Nat):vj D { D with count:=c }:=⟨rfl,fun _=>rfl,rfl,rfl,rfl,rfl,rfl⟩
theorem vj.length{D E:jD}(h:vj D E):E.l.length=D.l.length:=by have:=congrArg List.length h.names;simpa using this
theorem vj.none{D E:jD}(h:vj D E)(m:Tw):jN E.l m=none↔jN D.l m=none:=by
 have:=h.data m;cases a:jN E.l m<;>cases b:jN D.l m<;>simp_all
theorem vj.synced(D:jD)(n:Tw):vj D { D with l:=kN D.l (j8 D.l n) (fun f=>{ f with synced:=f.data.size }) }:=by
 refine⟨mz (fun f=>{ f with synced:=f.data.size }) (fun _=>rfl) _ _,fun m=>?_,VQ (fun f=>{ f with synced:=f.data.size }) (fun _=>rfl),rfl,rfl,rfl,rfl⟩;show(jN (kN D.l (j8 D.l n) _) m).map _=_;rw[nd (fun f=>{ f with synced:=f.data.size }) (fun _=>rfl)];split
 ·rename_i e;rw[e];cases jN D.l n<;>rfl
 ·rfl
theorem QV{l:List jI}{f:jI}(h:f∈l):f.name∈l.map jI.name:=qP.2 ⟨f,h,rfl⟩
theorem kj.same{D E:jD}{chs:List (List Tw)}(g:kj D chs)(h:vj D E):kj E chs:=by
 refine⟨h.down.trans g.up,h.fails.trans g.fails,g.many,fun i q p=>?_,g.small,fun f n j=>?_,(h.none _).2 g.xo⟩
 ·obtain⟨f,k,m⟩:=g.files i q p;have:=h.data (nmC i);rw[k]at this;cases b:jN E.l (nmC i) with
  | none=>rw[b]at this;cases this
  | some a =>
    rw[b]at this;exact⟨a,rfl,by have e:a.data=f.data:=(by simpa using this);rw[e,m]⟩
 ·have:=QV n;rw[h.names]at this;obtain⟨a,o,e⟩:=qP.1 this;rw[<-e]at j ⊢;exact g.only a o j
section
variable {D:jD}{L:jq}{chs:List (List Tw)}
theorem nG(g:kj D chs)(gl:uA D L chs):yG D L=0:=by
 unfold yG;rw[qZ (by simp[g.up]),qV gl.xB]
theorem rA(g:kj D chs)(h:0<chs.length):∃f,jN D.l (nmC (chs.length-1))=some f/\f.data=cW (chs.length-1) (ue chs)/\f.data.size=12+kM (ue chs)/\12+kM (ue chs)<=4096:=by
 have b:chs[chs.length-1]? = some (ue chs):=by
  unfold ue;rw[List.getLast?_eq_getElem?];rw[qD (by omega)];rfl
 obtain⟨f,i,a⟩:=g.files _ _ b;have j:=g.many;exact⟨f,i,a,by rw[a,Zp (by omega)],(g.small _ (qM b)).1⟩
theorem GW(g:kj D chs)(gl:uA D L chs):∃E,vH D L=(0,E, { L with sure:=L.endp })/\vj D E/\E.count=D.count:=by
 unfold vH;rw[gl.xS];by_cases a:chs.length=0
 ·rw[qV a];exact⟨D,rfl,vj.refl D,rfl⟩
 ·rw[qZ a];obtain⟨f,b,_⟩:=rA g (by omega);rw[XH g.up g.fails b,qV rfl];exact⟨_,rfl,vj.synced D _,rfl⟩
theorem GA(g:kj D chs)(gl:uA D L chs):∃E,yJ D L=(0,E, { L with sure:=L.endp })/\vj D E/\E.count=D.count:=by
 unfold yJ;rw[qZ (by simp[nG g gl])];exact GW g gl
theorem lQ(a:List (List Tw))(x:List Tw):ue (a++[x])=x:=by unfold ue;simp
theorem QY(a:List (List Tw))(x:List Tw):vB (a++[x])=4096*a.length+(12+kM x):=by
 unfold vB;rw[qN,lQ,qZ (by simp)];simp
theorem JK(h:0<chs.length):∃a x,chs=a++[x]:=by
 have b:chs≠[]:=by intro e;rw[e]at h;simp at h
 exact⟨chs.dropLast,chs.getLast b,(List.dropLast_concat_getLast b).symm⟩
def bB(chs:List (List Tw))(p:Tw):Bool:=decide (0<chs.length/\12+kM (ue chs)+(p.size+12)<=4096)
def plQ(chs:List (List Tw))(p:Tw):Nat:=if bB chs p=true then 4096*(chs.length-1)+(12+kM (ue chs)) else 4096*chs.length+12
def plC(chs:List (List Tw))(p:Tw):List (List Tw):=if bB chs p=true then chs.dropLast++[ue chs++[p]] else chs++[[p]]
structure mZ(D:jD)(L:jq)(chs:List (List Tw))(p:Tw)(q:Nat)(E:jD)(M:jq)(chs':List (List Tw)):Prop where
 xI:kj E chs'
 log:uA E M chs'
 all:jP 0 chs'=jP 0 chs++[(q,p)]
 endp:M.endp=q+(p.size+12)
 behind:L.endp<=q
 sure:M.sure<=q
 cap:E.cap=D.cap
 count:E.count=D.count
 length:E.l.length+chs.length=D.l.length+chs'.length
 used:jM E.l<=jM D.l+(p.size+24)
 room:jM E.l+6000<=D.cap
 jU:chs'.length<=chs.length+1
 place:q=plQ chs p
 chunks:chs'=plC chs p
 sureEq:M.sure=if bB chs p=true then L.sure else L.endp
 others:∀k,isC k=false->(jN E.l k).map jI.data=(jN D.l k).map jI.data
 names:∀k∈E.l.map jI.name,k∈D.l.map jI.name∨∃i,i<chs'.length/\k=nmC i
theorem GB{a:List (List Tw)}{x:List Tw}(g:kj D (a++[x])):∃f,jN D.l (nmC a.length)=some f/\f.data=cW a.length x/\f.data.size=12+kM x/\12+kM x<=4096/\a.length<=199:=by
 obtain⟨f,i,b,j,k⟩:=rA g (by simp);rw[lQ]at b j k;rw[qN,List.length_singleton,Nat.add_sub_cancel]at i b;have:=g.many;rw[qN,List.length_singleton]at this;exact⟨f,i,b,j,k,by omega⟩
theorem GC{a:List (List Tw)}{x:List Tw}(g:kj D (a++[x]))(gl:uA D L (a++[x]))(p:Tw)(Y:p.size<=2000)(t:12+kM x+(p.size+12)<=4096)(hr:jM D.l+(p.size+12)+6000<=D.cap):
  ∃q E M Q,uT D L p=(q,0,E,M)/\mZ D L (a++[x]) p q E M Q:=by
 obtain⟨f,r,R,S,h4,h5⟩:=GB g;have hm:=g.many;have O:=mj g.up r;rw[S]at O;have I:L.chunks=a.length+1:=by rw[gl.xS];simp
 have X:ftS ((12+kM x:Nat):Int) p=true:=by unfold ftS;exact qB (by omega)
 have V:uG D L p=(a.length,12+kM x,0):=by
  unfold uG;rw[I,qZ (by omega),Nat.add_sub_cancel,O,qV rfl,qV X]
 have aa:gG D (j9 p)=true:=by unfold gG;rw[gU];exact qB (by omega)
 have W:=XI (s:=j9 p) g.up g.fails r (by rw[gU];omega)
 have U:onD (fun E=>uS E L (j9 p)) D L=(0,uP D (nmC a.length) (j9 p),L):=by
  show((uS D L (j9 p)).1,(uS D L (j9 p)).2,L)=_;unfold uS;rw[qZ (by rw[aa];decide),I,Nat.add_sub_cancel,W]
 have T:uT D L p=(4096*a.length+(12+kM x),0,uP D (nmC a.length) (j9 p), { L with chunks:=a.length+1,endp:=4096*a.length+(12+kM x)+(j9 p).size }):=by
  unfold uT;rw[qZ (by simp[nG g gl]),qZ (by omega),V];dsimp only;rw[qZ (by simp),qZ (show ¬a.length=L.chunks by omega),U];rfl
 have u:∀m,jN (uP D (nmC a.length) (j9 p)).l m=if m=nmC a.length then some { f with data:=f.data++j9 p } else jN D.l m:=by
  intro m;show jN (kN D.l (j8 D.l (nmC a.length)) (fun f=>{ f with data:=f.data++j9 p })) m=_;rw[nd (fun f=>{ f with data:=f.data++j9 p }) (fun _=>rfl),r];rfl
 have B:(uP D (nmC a.length) (j9 p)).l.map jI.name=D.l.map jI.name:=mz (fun f=>{ f with data:=f.data++j9 p }) (fun _=>rfl) _ _
 have ae:jM (uP D (nmC a.length) (j9 p)).l=jM D.l+(p.size+12):=by
  have b:=dP D.l (nmC a.length);rw[r]at b;have:=nz D.l _ f (fun f=>{ f with data:=f.data++j9 p }) b;rw[show(({ f with data:=f.data++j9 p }:jI)).data.size=f.data.size+(p.size+12) by show(f.data++j9 p).size=_;rw[qx,gU]]at this;show jM (kN D.l _ _)=_;omega
 have ab:L.endp=4096*a.length+(12+kM x):=by rw[gl.endp,QY]
 have ac:(uP D (nmC a.length) (j9 p)).l.length=D.l.length:=by
  have:=congrArg List.length B;simpa using this
 have ad:=gl.sure;refine⟨_,_,_,a++[x++[p]],T, ?_⟩;have A:(a++[x++[p]]).length=a.length+1:=by simp
 have N:(a++[x]).length=a.length+1:=by simp
 refine⟨⟨g.up,g.fails,by omega,fun i o n=>?_,fun o Z=>?_,fun y C H=>?_, ?_⟩,⟨gl.xB, ?_, ?_, ?_⟩, ?_, ?_, ?_, ?_,rfl,rfl,by omega,by omega,by omega,by omega, ?_, ?_, ?_, ?_, ?_⟩
 ·rw[u];by_cases e:i=a.length
  ·subst e;rw[qV rfl];rw[List.getElem?_append_right (qK _),Nat.sub_self]at n;obtain rfl:x++[p]=o:=(by simpa using n);refine⟨_,rfl, ?_⟩;show f.data++j9 p=_;rw[R];exact(Ux _ _ _).symm
  ·have J:i<a.length:=by
    have:=(qO.1 n).1;rw[A]at this;omega
   rw[qZ (fun q=>e (JJ (by omega) (by omega) q))];rw[List.getElem?_append_left J]at n;exact g.files i o (by rw[List.getElem?_append_left J];exact n)
 ·rcases qE.1 Z with h|h
  ·exact g.small o (qW _ h)
  ·obtain rfl:o=x++[p]:=(by simpa using h);have hs:=g.small x (qJ _ (qH.2 rfl));refine⟨by rw[tf];omega,fun y C=>?_⟩;rcases qE.1 C with h|h
   ·exact hs.2 y h
   ·obtain rfl:y=p:=(by simpa using h);exact Y
 ·have P:=QV C;rw[B]at P;obtain⟨z,hz,e⟩:=qP.1 P;rw[<-e]at H ⊢;rw[A,<-N];exact g.only z hz H
 ·rw[u,qZ (fun q=>GG (by omega) q.symm)];exact g.xo
 ·rw[A]
 ·rw[QY,tf,gU];show 4096*a.length+(12+kM x)+(p.size+12)=_;omega
 ·show L.sure<=4096*a.length+(12+kM x)+(j9 p).size;omega
 ·rw[rW,rW,QK,QK,Zn,<-qn,qa];rw[show 4096*a.length+12+kM x=4096*a.length+(12+kM x) by omega]
 ·show 4096*a.length+(12+kM x)+(j9 p).size=_;rw[gU]
 ·omega
 ·show L.sure<=_;omega
 ·have j:bB (a++[x]) p=true:=by unfold bB;rw[lQ];exact qB ⟨by omega,t⟩
  unfold plQ;rw[qV j,lQ,N,Nat.add_sub_cancel]
 ·have j:bB (a++[x]) p=true:=by unfold bB;rw[lQ];exact qB ⟨by omega,t⟩
  unfold plC;rw[qV j,lQ,List.dropLast_concat]
 ·have j:bB (a++[x]) p=true:=by unfold bB;rw[lQ];exact qB ⟨by omega,t⟩
  rw[qV j]
 ·intro k b;rw[u,qZ (fun e=>by rw[e,(mX (i:=a.length) (by omega)).1]at b;cases b)]
 ·intro k b;rw[B]at b;exact qX b
end
theorem GD(D:jD)(L:jq)(f:jD->jq->Nat × jD × jq):yo (0,D,L) f=f D L:=rfl
theorem GE{f:jD->Nat × jD}{D E:jD}{L:jq}{k:jD->jq->Nat × jD × jq}(h:f D=(0,E)):yo (onD f D L) k=k E L:=by simp[yo,onD,h]
section
variable {D:jD}{L:jq}{chs:List (List Tw)}
theorem Sl(g:kj D chs)(h:chs.length<=199):jN D.l (nmC chs.length)=none:=by
 rw[fk];intro f b e;obtain⟨i,j,a⟩:=g.only f b (by rw[e];exact(mX (by omega)).1);rw[e]at a;have:=JJ (by omega) (by omega) a;omega
theorem Sm{n:Nat}{p:Tw}(a:p.size<=2000)(h:¬(n+(p.size+12)<=4096)):ftS (n:Nat) p=false:=by unfold ftS;exact qA (by omega)
theorem GF(g:kj D chs)(gl:uA D L chs)(p:Tw)(k:p.size<=2000)(j:0<chs.length->¬12+kM (ue chs)+(p.size+12)<=4096):uG D L p=(chs.length,12,0):=by
 unfold uG;rw[gl.xS];by_cases a:chs.length=0
 ·rw[qV a,a]
 ·rw[qZ a];obtain⟨f,b,m,i,n⟩:=rA g (by omega);have l:=mj g.up b;rw[l,qV rfl,i]
  rw[qZ (by
   rw[Sm k (by have:=j (by omega);omega)];decide)]
theorem Sn(g:kj D chs)(gl:uA D L chs)(p:Tw)(f:p.size<=2000)(b:0<chs.length->¬12+kM (ue chs)+(p.size+12)<=4096)(i:200<=chs.length∨gG D (hdS (chs.length:Nat)++j9 p)=false):uT D L p=(0,60,D,L):=by
 unfold uT;rw[qZ (by simp[nG g gl]),qZ (by omega),GF g gl p f b];dsimp only;rw[qZ (by simp),qV gl.xS.symm]
 have a:cY D L (j9 p)=(60,D,L):=by
  unfold cY;rw[gl.xS,qV i]
 rw[a];rfl
theorem Sp{a:List (List Tw)}{x:List Tw}(g:kj D (a++[x]))(gl:uA D L (a++[x]))(p:Tw)(u:p.size<=2000)(t:12+kM x+(p.size+12)<=4096)(o:gG D (j9 p)=false):uT D L p=(0,60,D,L):=by
 obtain⟨f,i,q,j,r,s⟩:=GB g;have b:=mj g.up i;rw[j]at b;have m:L.chunks=a.length+1:=by rw[gl.xS];simp
 have n:ftS ((12+kM x:Nat):Int) p=true:=by unfold ftS;exact qB (by omega)
 have l:uG D L p=(a.length,12+kM x,0):=by
  unfold uG;rw[m,qZ (by omega),Nat.add_sub_cancel,b,qV rfl,qV n]
 have k:onD (fun E=>uS E L (j9 p)) D L=(60,D,L):=by
  show((uS D L (j9 p)).1,(uS D L (j9 p)).2,L)=_;unfold uS;rw[qV o]
 unfold uT;rw[qZ (by simp[nG g gl]),qZ (by omega),l];dsimp only;rw[qZ (by simp),qZ (show ¬a.length=L.chunks by omega),k];rfl
theorem GH(g:kj D chs)(gl:uA D L chs)(p:Tw)(W:p.size<=2000)(J:0<chs.length->¬12+kM (ue chs)+(p.size+12)<=4096)(hm:D.l.length<400)(S:chs.length<=199)(hr:jM D.l+(p.size+24)+6000<=D.cap):
  ∃q E M Y,uT D L p=(q,0,E,M)/\mZ D L chs p q E M Y:=by
 obtain⟨a,af,r,ag⟩:=GW g gl;have o:=g.same r;have j:(hdS (chs.length:Nat)++j9 p).size=p.size+24:=by rw[qx,ma S,gU];omega
 have ae:gG D (hdS (chs.length:Nat)++j9 p)=true:=by unfold gG;rw[j];exact qB (by omega)
 have V:=Sl o S;have aa:=VX o.up o.fails (Sh (i:=chs.length) (by omega)) V (by rw[r.length];exact hm);have N:=fun m=>XF (l:=a.l) (f:=⟨nmC chs.length,ByteArray.empty,0⟩) V m
 have T:=XI (D:={ a with l:=kL a.l ⟨nmC chs.length,ByteArray.empty,0⟩ }) (n:=nmC chs.length) (s:=hdS (chs.length:Nat)++j9 p) (f:=⟨nmC chs.length,ByteArray.empty,0⟩) o.up o.fails (by
   show jN (kL a.l _) _=_;rw[N,qV rfl]) (by
   show jM (kL a.l _)+_<=a.cap;rw[ng,j,r.used,r.cap];show jM D.l+0+_<=_;omega)
 obtain⟨b,B⟩:∃b,b=uP { a with l:=kL a.l ⟨nmC chs.length,ByteArray.empty,0⟩ } (nmC chs.length) (hdS (chs.length:Nat)++j9 p):=⟨_,rfl⟩
 rw[<-B]at T
 have hB:cY D L (j9 p)=(0,b, { L with sure:=L.endp }):=by
  unfold cY;rw[gl.xS,qZ (by rw[ae];simp;omega),af,GD,GE aa];show((jc _ _ _).1,(jc _ _ _).2,_)=_;rw[T,gl.xS]
 have hA:uT D L p=(4096*chs.length+12,0,b, { L with sure:=L.endp,chunks:=chs.length+1,endp:=4096*chs.length+12+(j9 p).size }):=by
  unfold uT;rw[qZ (by simp[nG g gl]),qZ (by omega),GF g gl p W J];dsimp only;rw[qZ (by simp),qV gl.xS.symm,hB];rfl
 have O:∀m,jN b.l m=if m=nmC chs.length then some ⟨nmC chs.length,hdS (chs.length:Nat)++j9 p,0⟩ else jN a.l m:=by
  intro m;rw[B];show jN (kN (kL a.l ⟨nmC chs.length,ByteArray.empty,0⟩) (j8 (kL a.l ⟨nmC chs.length,ByteArray.empty,0⟩) (nmC chs.length)) (fun f=>{ f with data:=f.data++(hdS (chs.length:Nat)++j9 p) })) m=_;rw[nd (fun f=>{ f with data:=f.data++(hdS (chs.length:Nat)++j9 p) }) (fun _=>rfl),N,qV rfl,N];by_cases e:m=nmC chs.length
  ·rw[qV e,qV e];show some (⟨nmC chs.length,ByteArray.empty++(hdS (chs.length:Nat)++j9 p),0⟩:jI)=_;rw[ByteArray.empty_append]
  ·rw[qZ e,qZ e,qZ e]
 have Q:b.l.map jI.name=(kL a.l ⟨nmC chs.length,ByteArray.empty,0⟩).map jI.name:=by
  rw[B];exact mz (fun f=>{ f with data:=f.data++(hdS (chs.length:Nat)++j9 p) }) (fun _=>rfl) _ _
 have ak:jM b.l=jM D.l+(p.size+24):=by
  have t:=dP (kL a.l ⟨nmC chs.length,ByteArray.empty,0⟩) (nmC chs.length);rw[N,qV rfl]at t;have A:=nz _ _ _ (fun f=>{ f with data:=f.data++(hdS (chs.length:Nat)++j9 p) }) t;rw[ng,r.used]at A;have e:(ByteArray.empty++(hdS (chs.length:Nat)++j9 p)).size=p.size+24:=by rw[ByteArray.empty_append,j]
  rw[B];show jM (kN _ _ _)=_;have h2:jM (kN (kL a.l ⟨nmC chs.length,ByteArray.empty,0⟩) (j8 (kL a.l ⟨nmC chs.length,ByteArray.empty,0⟩) (nmC chs.length)) (fun f=>{ f with data:=f.data++(hdS (chs.length:Nat)++j9 p) }))+0=jM D.l+0+(ByteArray.empty++(hdS (chs.length:Nat)++j9 p)).size:=A;rw[e]at h2;omega
 have ai:b.l.length=D.l.length+1:=by
  have A:=congrArg List.length Q;rw[qz,qz,pN,r.length]at A;exact A
 have aj:=g.many;have ab:=gl.endp
 have ah:L.endp<=4096*chs.length:=by
  rw[ab];unfold vB;split
  ·omega
  ·obtain⟨f,_,_,_,h4⟩:=rA g (by omega);omega
 have C:b.cap=D.cap/\b.count=D.count/\b.xB=D.xB/\b.down=false/\b.fails=0:=by
  rw[B];exact⟨r.cap,ag,r.xB,o.up,o.fails⟩
 refine⟨_,_,_,chs++[[p]],hA, ?_⟩;have P:(chs++[[p]]).length=chs.length+1:=by simp
 refine⟨⟨C.2.2.2.1,C.2.2.2.2,by omega,fun i I u=>?_,fun I ad=>?_,fun y R U=>?_, ?_⟩,⟨C.2.2.1.trans gl.xB, ?_, ?_, ?_⟩, ?_, ?_, ?_, ?_,C.1,C.2.1,by omega,by omega,by omega,by omega, ?_, ?_, ?_, ?_, ?_⟩
 ·rw[O];by_cases e:i=chs.length
  ·subst e;rw[qV rfl];rw[List.getElem?_append_right (qK _),Nat.sub_self]at u;obtain rfl:[p]=I:=(by simpa using u);exact⟨_,rfl,rfl⟩
  ·have ac:i<chs.length:=by
    have:=(qO.1 u).1;rw[P]at this;omega
   rw[qZ (fun q=>e (JJ (by omega) (by omega) q))];rw[List.getElem?_append_left ac]at u;exact o.files i I u
 ·rcases qE.1 ad with h|h
  ·exact g.small I h
  ·obtain rfl:I=[p]:=(by simpa using h);refine⟨by show 12+(p.size+12+0)<=4096;omega,fun y R=>?_⟩;obtain rfl:y=p:=(by simpa using R);exact W
 ·have X:=QV R;rw[Q]at X;obtain⟨z,j,e⟩:=qP.1 X;rw[<-e]at U ⊢;rw[P];rcases mT j with j|rfl
  ·obtain⟨i,u,Z⟩:=o.only z j U;exact⟨i,by omega,Z⟩
  ·exact⟨chs.length,by omega,rfl⟩
 ·rw[O,qZ (fun q=>GG (by omega) q.symm)];exact o.xo
 ·rw[P]
 ·rw[QY,gU];show 4096*chs.length+12+(p.size+12)=4096*chs.length+(12+(p.size+12+0))
  omega
 ·show L.endp<=4096*chs.length+12+(j9 p).size;omega
 ·rw[rW,QK,qa];rfl
 ·show 4096*chs.length+12+(j9 p).size=_;rw[gU]
 ·omega
 ·show L.endp<=_;omega
 ·have H:bB chs p=false:=by unfold bB;exact qA (fun h=>J h.1 h.2)
  unfold plQ;rw[qZ (by simp[H])]
 ·have H:bB chs p=false:=by unfold bB;exact qA (fun h=>J h.1 h.2)
  unfold plC;rw[qZ (by simp[H])]
 ·have H:bB chs p=false:=by unfold bB;exact qA (fun h=>J h.1 h.2)
  rw[qZ (by simp[H])]
 ·intro k t;rw[O,qZ (fun e=>by rw[e,(mX (i:=chs.length) (by omega)).1]at t;cases t)];exact r.data k
 ·intro k t;rw[Q]at t;obtain⟨z,j,e⟩:=qP.1 t;rcases mT j with j|rfl
  ·refine qX ?_;rw[<-r.names];exact qP.2 ⟨z,j,e⟩
  ·exact qY ⟨chs.length,by omega,e.symm⟩
theorem Sr(g:kj D chs)(gl:uA D L chs)(p:Tw)(i:p.size<=2000)(s:D.l.length<400):uT D L p=(0,60,D,L)∨∃q E M n,uT D L p=(q,0,E,M)/\mZ D L chs p q E M n:=by
 by_cases f:0<chs.length/\12+kM (ue chs)+(p.size+12)<=4096
 ·obtain⟨a,x,rfl⟩:=JK f.1;rw[lQ]at f;cases b:gG D (j9 p)
  ·exact qX (Sp g gl p i f.2 b)
  ·refine qY (GC g gl p i f.2 ?_);unfold gG at b;rw[gU,decide_eq_true_eq]at b;omega
 ·have k:0<chs.length->¬12+kM (ue chs)+(p.size+12)<=4096:=fun o r=>f ⟨o,r⟩
  by_cases m:200<=chs.length∨gG D (hdS (chs.length:Nat)++j9 p)=false
  ·exact qX (Sn g gl p i k m)
  ·have j:chs.length<=199:=(by omega);refine qY (GH g gl p i k s j ?_)
   have b:gG D (hdS (chs.length:Nat)++j9 p)=true:=by
    cases h:gG D (hdS (chs.length:Nat)++j9 p)
    ·exact absurd (qY h) m
    ·rfl
   unfold gG at b;rw[qx,ma j,gU,decide_eq_true_eq]at b;omega
theorem Ss(g:kj D chs)(gl:uA D L chs)(p:Tw)(f:p.size<=2000)(n:D.l.length<400)(k:chs.length<=199)(o:jM D.l+(p.size+24)+6000<=D.cap):∃q E M i,uT D L p=(q,0,E,M)/\mZ D L chs p q E M i:=by
 by_cases b:0<chs.length/\12+kM (ue chs)+(p.size+12)<=4096
 ·obtain⟨a,x,rfl⟩:=JK b.1;rw[lQ]at b;exact GC g gl p f b.2 (by omega)
 ·exact GH g gl p f (fun j m=>b ⟨j,m⟩) n k o
end
theorem GI: ∀(chs:List (List Tw)) (i:Nat) (x:Nat × Tw),x∈jP i chs->∃j b,chs[j]? = some b/\∃y∈uk 12 b,x.1=4096*(i+j)+y.1/\x.2=y.2
 | [],i,x,h=>by cases h
 | b::r,i,x,h=>by
   rcases qE.1 h with h|h
   ·refine⟨0,b,rfl, ?_⟩
    have:∀(l:List Tw) (k:Nat),x∈uk (4096*i+k) l->∃y∈uk k l,x.1=4096*(i+0)+y.1/\x.2=y.2:=by
     intro l
     induction l with
     | nil=>intro k a;cases a
     | cons p l q =>
       intro k a;rcases qL.1 a with rfl|a
       ·exact⟨(k,p),qC,rfl,rfl⟩
       ·obtain⟨y,f,e⟩:=q (k+(p.size+12)) (by rw[<-Nat.add_assoc];exact a);exact⟨y,qF _ f,e⟩
    exact this b 12 h
   ·obtain⟨j,s,o,y,f,m,n⟩:=GI r (i+1) x h;exact⟨j+1,s,o,y,f,by rw[m];omega,n⟩
section
variable {D:jD}{L:jq}{chs:List (List Tw)}
theorem GL(g:kj D chs){i:Nat}{a:List Tw}(hi:chs[i]? = some a):i<=199/\∃f,jN D.l (nmC i)=some f/\f.data=cW i a/\f.data.size=12+kM a/\12+kM a<=4096/\(∀p∈a,p.size<=2000):=by
 have n:=(qO.1 hi).1;have o:=g.many;obtain⟨f,j,b⟩:=g.files i a hi;obtain⟨k,m⟩:=g.small a (qM hi);exact⟨by omega,f,j,b,by rw[b,Zp (by omega)],k,m⟩
theorem Sa(g:kj D chs)(gl:uA D L chs){q:Nat}{p:Tw}(h:(q,p)∈jP 0 chs):lj D L (q:Nat)=(p,0, { D with count:=D.count+2 })/\q<819200:=by
 obtain⟨j,t,s,y,T,n,o⟩:=GI chs 0 _ h;obtain⟨O,f,i,J,b,Y,M⟩:=GL g s;have Z:=(qO.1 s).1;have r:=ma O;obtain⟨U,V,W,X,u,m,z⟩:=Uj t (hdS (j:Nat)) M y (by rw[r];exact T);have N:vn (hdS (j:Nat)) t=f.data:=J.symm;rw[N]at U V W u m;rw[r]at X;rw[b]at u;dsimp only at n o;subst o;rw[qa]at n;have C:(q:Int)/4096=(j:Int):=by omega
 have H:(q:Int)%4096=(y.1:Int):=by omega
 refine⟨?_,by omega⟩;unfold lj;rw[qZ (by simp[nG g gl]),C,H,gl.xS,qZ (by omega),qm,qm];unfold tA;have S:=mj g.up i;have Q:=pP (a:=y.1) (k:=4) g.up i (by rw[b];omega);have I:jN ({ D with count:=D.count+1 }:jD).l (nmC j)=some f:=i;have R:=pP (D:={ D with count:=D.count+1 }) (a:=y.1) (k:=y.2.size+12) g.up I (by rw[b];omega)
 have P:jz (f.data.extract y.1 (y.1+4))=y.2.size:=by
  have e:f.data.extract y.1 (y.1+4)=(j9 y.2).extract 0 4:=by
   rw[<-m,ByteArray.extract_extract];congr 1;have:=gU y.2;omega
  rw[e];exact RT y.2 z
 obtain⟨A,B⟩:=RS y.2 z;rw[S];dsimp only;rw[qZ (by simp),qZ (by rw[b];omega)];rw[show((4:Int))=((4:Nat):Int) from rfl,Q];dsimp only;rw[qZ (by simp),P,qZ (by rw[b];omega),R];dsimp only;rw[qZ (by simp),m,qV A,B]
end
theorem GM: ∀(a b:List Tw),a.Pairwise (fun x y=>vD x y=true)->b.Pairwise (fun x y=>vD x y=true)->(∀x,x∈a↔x∈b)->a=b
 | [],[],_,_,_=>rfl
 | [],y::b,_,_,h=>by have:=(h y).2 qC;cases this
 | x::a,[],_,_,h=>by have:=(h x).1 qC;cases this
 | x::a,y::b,ha,hb,h=>by
   obtain⟨j,l⟩:=xU.1 ha;obtain⟨k,m⟩:=xU.1 hb
   have e:x=y:=by
    rcases qL.1 ((h x).1 qC) with e|n
    ·exact e
    ·rcases qL.1 ((h y).2 qC) with e|o
     ·exact e.symm
     ·exact absurd (JQ (j y o) (k x n)) (oO x)
   subst e;congr 1;refine GM a b l m (fun z=>⟨fun f=>?_,fun f=>?_⟩)
   ·rcases qL.1 ((h z).1 (qF _ f)) with rfl|i
    ·exact absurd (j z f) (oO z)
    ·exact i
   ·rcases qL.1 ((h z).2 (qF _ f)) with rfl|i
    ·exact absurd (k z f) (oO z)
    ·exact i
theorem JV: ∀(l:List Tw) (c:Nat),yz l c=yz (l.filter isC) c
 | [],c=>rfl
 | s::r,c=>by
   cases h:isC s
   ·rw[List.filter_cons_of_neg (by simp[h]),<-JV r c];rw[yz,qZ (by simp[h])]
   ·rw[List.filter_cons_of_pos h,yz,yz,qV h,qV h,JV r (c+1)]
theorem GN: ∀(m c:Nat),c+m<=200->yz ((List.range' c m).map nmC) c=(0,c+m)
 | 0,c,_=>rfl
 | m+1,c,h=>by
   rw[List.range'_succ,List.map_cons];obtain⟨a,b⟩:=mX (i:=c) (by omega);rw[yz,qV a,b,qZ (by omega),GN m (c+1) (by omega)];congr 1;omega
theorem Se{D:jD}{chs:List (List Tw)}(g:kj D chs)(u:D.l.Pairwise (fun f g=>vD f.name g.name=true)):yz (D.l.map jI.name) 0=(0,chs.length):=by
 have z:=g.many
 have e:(D.l.map jI.name).filter isC=(List.range' 0 chs.length).map nmC:=by
  refine GM _ _ (List.Pairwise.filter _ (List.pairwise_map.2 u)) ?_ (fun x=>⟨fun k=>?_,fun k=>?_⟩)
  ·refine List.pairwise_map.2 ?_;refine List.Pairwise.imp_of_mem ?_ (List.pairwise_lt_range' (s:=0) (n:=chs.length) (step:=1) (by omega));intro a b q r y;rw[List.mem_range'_1]at q r;have:=Lr 99 (m:=a) (n:=b) (by omega) (by omega);unfold vD;rw[show(nmC a).toList=(nmS 99 (a:Nat)).toList from rfl,show(nmC b).toList=(nmS 99 (b:Nat)).toList from rfl,this];exact qB (by omega)
  ·obtain⟨j,p⟩:=qo.1 k;obtain⟨f,t,rfl⟩:=qP.1 j;obtain⟨i,o,e⟩:=g.only f t p;exact qP.2 ⟨i,by rw[List.mem_range'_1];omega,e.symm⟩
  ·obtain⟨i,o,rfl⟩:=qP.1 k;rw[List.mem_range'_1]at o;obtain⟨f,j,_⟩:=g.files i chs[i] (qD (by omega));refine qo.2 ⟨?_,(mX (by omega)).1⟩;have:=QV (LY j);rw[LV j]at this;exact this
 rw[JV,e,GN _ _ (by omega),qa]
theorem GO{D:jD}{chs:List (List Tw)}(g:kj D chs):∀(k n c:Nat) (L:jq),n+k=chs.length->(k=0->L.endp=vB chs)->∃E a,uq k n { D with count:=c } L=(0,E, { L with endp:=vB chs })/\vj D E/\E.count=a/\a<=c+k
 | 0,n,c,L,h,hL=>⟨_,c,by rw[<-hL rfl];rfl,vj.count D c,rfl,qK _⟩
 | k+1,n,c,L,h,hL=>by
   have t:n<chs.length:=(by omega);have l:=qD t;obtain⟨u,f,j,p,q,H,r⟩:=GL g l;have y:=No (D:={ D with count:=c }) (n:=nmC n) (f:=f) g.up j;obtain⟨C,i,m⟩:=RP u chs[n] r;rw[<-p]at C i m;rw[uq,y,qZ (by simp)];dsimp only;rw[m,qZ (by simp)];by_cases b:k=0
   ·rw[qV b,i];unfold ff;rw[qZ (by omega),qZ (by omega)];have z:=XH (D:={ D with count:=c+1 }) (n:=nmC n) (f:=f) g.up g.fails j;refine⟨_,c+1, ?_,(vj.count D (c+1)).trans (vj.synced _ (nmC n)),rfl,by omega⟩;show((kZ { D with count:=c+1 } (nmC n)).1,(kZ { D with count:=c+1 } (nmC n)).2,_)=_;rw[z]
    have e:vB chs=4096*n+f.data.size:=by
     have s:ue chs=chs[n]:=by
      unfold ue;rw[List.getLast?_eq_getElem?,show chs.length-1=n by omega,l];rfl
     unfold vB;rw[qZ (by omega),s,q,show chs.length-1=n by omega]
    rw[e]
   ·rw[qZ b,i,qZ (by omega)];obtain⟨E,a,e,A,B,I⟩:=GO g k (n+1) (c+1) { L with endp:=4096*n+f.data.size } (by omega) (fun o=>absurd o b);exact⟨E,a,e,A,B,by omega⟩
theorem Si{D:jD}{chs:List (List Tw)}(g:kj D chs)(i:D.l.Pairwise (fun f g=>vD f.name g.name=true)):∃E,gz D=(0,E,⟨D.xB,chs.length,vB chs,0⟩)/\vj D E/\E.count<=D.count+200:=by
 have n:=g.many
 have j:yW D=(0,D):=by
  unfold yW;rw[su g.up g.xo,qV rfl]
 have b:ur D ⟨D.xB,0,0,0⟩=(0,D,⟨D.xB,chs.length,0,0⟩):=by
  unfold ur;rw[Se g i]
 obtain⟨E,m,e,k,o,p⟩:=GO g chs.length 0 D.count ⟨D.xB,chs.length,0,0⟩ (by omega) (fun a=>by unfold vB;rw[qV a]);refine⟨E, ?_,k,by omega⟩;unfold gz;rw[GE j,b,GD];exact e
theorem So(c:Nat)(b:c<=1048576):kj (fj c) []:=⟨rfl,rfl,qI _,fun i a h=>(by simp at h),fun a h=>(by cases h),fun f h=>(by cases h),rfl⟩
end
section
open Go.RowKit
abbrev Rec:= Nat × Tw
def lX(x:Rec):Nat:=x.1+(x.2.size+12)
def mJ(l:List Rec):Prop:=l.Pairwise (fun x y=>lX x<=y.1)
def lZ(l:List Rec)(k:Nat):Nat:=if k=0 then 0 else(l[k-1]?.map lX).getD 0
theorem Sw{l:List Rec}{k:Nat}{x:Rec}(h:l[k]? = some x):lZ l (k+1)=lX x:=by unfold lZ;rw[qZ (by omega),Nat.add_sub_cancel,h];rfl
theorem GP: ∀(l:List Tw) (k:Nat),mJ (uk k l)/\∀x∈uk k l,k<=x.1/\lX x<=k+kM l
 | [],k=>⟨List.Pairwise.nil,fun x h=>by cases h⟩
 | p::l,k=>by
   obtain⟨f,b⟩:=GP l (k+(p.size+12));refine⟨xU.2 ⟨fun y i=>(b y i).1,f⟩,fun x a=>?_⟩;show _/\_<=k+(p.size+12+kM l)
   rcases qL.1 a with rfl|a
   ·refine⟨qK _, ?_⟩;show k+(p.size+12)<=_;omega
   ·have:=b x a;omega
theorem QU: ∀(chs:List (List Tw)) (i:Nat),(∀b∈chs,12+kM b<=4096)->mJ (jP i chs)/\∀x∈jP i chs,4096*i+12<=x.1/\lX x<=4096*(i+chs.length)
 | [],i,_=>⟨List.Pairwise.nil,fun x h=>by cases h⟩
 | b::r,i,h=>by
   obtain⟨k,f⟩:=QU r (i+1) (fun q m=>h q (qF _ m));obtain⟨l,j⟩:=GP b (4096*i+12);have o:=h b qC;refine⟨List.pairwise_append.2 ⟨l,k,fun x a y n=>?_⟩,fun x a=>?_⟩
   ·have:=(j x a).2;have:=(f y n).1;omega
   ·rw[qv];rcases qE.1 a with a|a
    ·have:=j x a;omega
    ·have:=f x a;omega
theorem TQ(chs:List (List Tw))(h:∀b∈chs,12+kM b<=4096):lZ (jP 0 chs) (jP 0 chs).length=vB chs∨(vB chs%4096=12/\lZ (jP 0 chs) (jP 0 chs).length+12<=vB chs):=by
 by_cases j:0<chs.length
 ·obtain⟨a,x,rfl⟩:=JK j;rw[QY,rW,QK,qa];by_cases i:0<x.length
  ·left;have f:x≠[]:=(by intro e;rw[e]at i;simp at i);obtain⟨y,p,rfl⟩:∃y p,x=y++[p]:=⟨x.dropLast,x.getLast f,(List.dropLast_concat_getLast f).symm⟩
   rw[Zn,<-qn,qN,List.length_singleton,tf];rw[Sw (x:=(4096*a.length+12+kM y,p)) (by rw[List.getElem?_append_right (qK _),Nat.sub_self];rfl)];show 4096*a.length+12+kM y+(p.size+12)=_;omega
  ·have e:x=[]:=List.eq_nil_of_length_eq_zero (by omega);subst e;right;show(4096*a.length+(12+0))%4096=12/\lZ (jP 0 a++[]) (jP 0 a++[]).length+12<=4096*a.length+(12+0)
   rw[List.append_nil];refine⟨by omega, ?_⟩;obtain⟨_,k⟩:=QU a 0 (fun b l=>h b (qW _ l))
   have:lZ (jP 0 a) (jP 0 a).length<=4096*a.length:=by
    unfold lZ;split
    ·exact qI _
    ·rw[qD (by omega)];have:=(k _ (List.getElem_mem (show(jP 0 a).length-1<(jP 0 a).length by omega))).2;rw[qa]at this;exact this
   omega
 ·have e:chs=[]:=List.eq_nil_of_length_eq_zero (by omega);subst e;exact qX rfl
end
section
open Go.RowKit
theorem cq(P:Program)(w:World)(a:Addr)(m:Mode)(k:FloatKind)(b:Nat):(store a (.float k b) m).run P w=stored P w a (.float k b) m:=run_store P w a _ m rfl
attribute [local go_sem] cq
def yH(w:World)(g:Nat)(t d:Tw)(b:Nat):Prop:=w.heap[g]? = some (.cells #[t,d,.float .f64 b] 64 (0,0))
theorem yH.c0{w:World}{g:Nat}{t d:Tw}{b:Nat}(h:yH w g t d b):w.cell? ⟨g,0,none⟩=some (.string t):=by unfold yH at h;simp[World.cell?,h]
theorem yH.c1{w:World}{g:Nat}{t d:Tw}{b:Nat}(h:yH w g t d b):w.cell? ⟨g,1,none⟩=some (.string d):=by unfold yH at h;simp[World.cell?,h]
theorem yH.c2{w:World}{g:Nat}{t d:Tw}{b:Nat}(h:yH w g t d b):w.cell? ⟨g,2,none⟩=some (.float .f64 b):=by unfold yH at h;simp[World.cell?,h]
theorem yH.fz{w:World}{g:Nat}{t d:Tw}{b:Nat}(h:yH w g t d b)(i:Nat):w.frozen? ⟨g,i,none⟩=false:=by unfold yH at h;simp[World.frozen?,h]
theorem yH.new(w:World)(t d:Tw)(b:Nat):yH (w.alloc (.cells #[t,d,.float .f64 b] 64)) w.1.size t d b:=by
 show(w.heap.push _)[w.1.size]? = _;simp
theorem yH.lt{w:World}{g:Nat}{t d:Tw}{b:Nat}(h:yH w g t d b):g<w.1.size:=by
 obtain⟨a,_⟩:=ql.1 h;exact a
theorem yH.below{w w':World}{g:Nat}{t d:Tw}{b:Nat}(h:yH w g t d b)(a:Below w.1.size w w'):yH w' g t d b:=(a.block g h.lt).trans h
theorem yH.zq{w:World}{g:Nat}{t d:Tw}{b:Nat}(h:yH w g t d b)(i f:Tw)(a:Nat):
  yH (((w.setCell ⟨g,0,none⟩ (.string i)).setCell ⟨g,1,none⟩ (.string f)).setCell ⟨g,2,none⟩ (.float .f64 a)) g i f a:=by
 unfold yH at h ⊢;simp[World.setCell,Array.getElem?_modify,h]
theorem rB{w w2:World}(h:Below w.1.size w w2)(f b:Value)(a:Value):
  Below w.1.size w (((w2.setCell ⟨w.1.size,0,none⟩ f).setCell ⟨w.1.size,1,none⟩ b).setCell ⟨w.1.size,2,none⟩ a):=((h.setCell (qK _) _).setCell (qK _) _).setCell (qK _) _
theorem TX(s:Tw)(w:World)(i:s.size<=maxLen)(h:¬8<=(erL s).size):
  Calls prog 252 #[s] w (X3 (.tuple #[.agg #[.string ByteArray.empty,.string ByteArray.empty,.float .f64 0],.string ByteArray.empty,.bool false]) w):=by
 have n:=qQ fun W=>nZ s W i
 have l:=qQ fun W=>nZ (rdB s) W (qR (bS s) i)
 have H:(erL s).size<8:=by omega
 have m:rdB (rdB s)=erL s:=rfl;rw[m]at l;have j:=yH.new w ByteArray.empty ByteArray.empty 0;generalize erL s=L at*;generalize rdB s=R at*;generalize rdA s=A at*;generalize vc s=o at*;generalize rdA R=y at*;generalize vc R=I at*;clear m h i;go_enter func252,ntmps252;go_wp2_with fail;refine(n.out _).mono ?_;rintro e J⟨rfl,b⟩;have k:=j.below b;go_wp2_with fail;refine(l.out _).mono ?_;rintro e u⟨rfl,f⟩;have a:=k.below f;have p:Below w.1.size w u:=(((qU _ _).alloc (qK _) _).trans (b.mono (by simp))).trans (f.mono (by have:=b.size;simp at this;omega));have q:=a.c0;have r:=a.c1;have t:=a.c2;have z:=a.fz 0;have B:=a.fz 1;have C:=a.fz 2;clear j k a b f;go_wp2_with fail;exact bodyPost_ret (v:=.tuple #[.agg #[.string ByteArray.empty,.string ByteArray.empty,.float .f64 0],.string ByteArray.empty,.bool false]) (by simp[results,Tryz.results252,go_sem,q,r,t];rfl) rfl ⟨rfl,rB p _ _ _⟩
theorem TZ(s:Tw)(w:World)(i:s.size<=maxLen)(h:8<=(erL s).size)(P:¬chk (rdA s) (rdA (rdB s))=0):
  Calls prog 252 #[s] w (X3 (.tuple #[.agg #[.string ByteArray.empty,.string ByteArray.empty,.float .f64 0],.string ByteArray.empty,.bool false]) w):=by
 have Q:=qQ fun W=>nZ s W i
 have B:=qQ fun W=>nZ (rdB s) W (qR (bS s) i)
 have S:=qQ fun W=>dZ (erL s) W (qR (bS _) (qR (bS s) i))
 have X:=fun b w=>KL b w
 have l:=fun b W=>tw (rdA s) (rdA (rdB s)) b W (qR (rY _) i) (qR (rY _) (qR (bS s) i))
 have O:rdB (rdB s)=erL s:=rfl;rw[O]at B;have y:=yH.new w ByteArray.empty ByteArray.empty 0;rcases tr (rdA s) (rdA (rdB s)) with j|j|j
 ·exact absurd j P
 all_goals
  rw[j]at l;have T:=qQ l;clear l j P;generalize jz (erL s)=n at*;generalize erL s=L at*;generalize rdB s=R at*;generalize rdA s=A at*;generalize vc s=o at*;generalize rdA R=u at*;generalize vc R=Y at*;clear O i;go_enter func252,ntmps252;go_wp2_with fail;refine(Q.out _).mono ?_;rintro e Z⟨rfl,k⟩;have z:=y.below k;go_wp2_with fail;refine(B.out _).mono ?_;rintro e V⟨rfl,m⟩;have a:=z.below m;have N:Below w.1.size w V:=(((qU _ _).alloc (qK _) _).trans (k.mono (by simp))).trans (m.mono (by have:=k.size;simp at this;omega));have q:=a.c0;have r:=a.c1;have t:=a.c2;have I:=a.fz 0;have J:=a.fz 1;have M:=a.fz 2;have H:=qQ (a.zq A u n);have C:=qQ (rB N (.string A) (.string u) (.float .f64 n));clear y z a k m N;go_wp2_with fail;refine X5 (S.out _) ?_;go_wp2_with fail;refine KG (T.out _ _) fun w3 p=>?_;have f:=H.out.below p;have U:=bj C.out p;clear p H C q r t I J M;have q:=f.c0;have r:=f.c1;have t:=f.c2;have I:=f.fz 0;have J:=f.fz 1;have M:=f.fz 2;clear f;go_wp2_with fail;exact bodyPost_ret (v:=.tuple #[.agg #[.string ByteArray.empty,.string ByteArray.empty,.float .f64 0],.string ByteArray.empty,.bool false]) (by simp[results,Tryz.results252,go_sem,q,r,t];rfl) rfl ⟨rfl,rB U _ _ _⟩
theorem TJ(s:Tw)(w:World)(i:s.size<=maxLen)(h:8<=(erL s).size)(O:chk (rdA s) (rdA (rdB s))=0):
  Calls prog 252 #[s] w (X3 (.tuple #[.agg #[.string (rdA s),.string (rdA (rdB s)),.float .f64 (jz (erL s))],.string ((erL s).extract 8 (erL s).size),.bool true]) w):=by
 have P:=qQ fun W=>nZ s W i
 have z:=qQ fun W=>nZ (rdB s) W (qR (bS s) i)
 have Q:=qQ fun W=>dZ (erL s) W (qR (bS _) (qR (bS s) i))
 have X:=fun b w=>KL b w
 have l:=fun b W=>tw (rdA s) (rdA (rdB s)) b W (qR (rY _) i) (qR (rY _) (qR (bS s) i))
 have U:(erL s).size<=maxLen:=qR (bS _) (qR (bS s) i);unfold maxLen at U;have N:rdB (rdB s)=erL s:=rfl;rw[N]at z;have u:=yH.new w ByteArray.empty ByteArray.empty 0;rw[O]at l;have S:=qQ l;clear l O;generalize jz (erL s)=n at*;generalize erL s=L at*;generalize rdB s=R at*;generalize rdA s=A at*;generalize vc s=o at*;generalize rdA R=k at*;generalize vc R=Y at*;clear N i;go_enter func252,ntmps252;go_wp2_with fail;refine(P.out _).mono ?_;rintro e Z⟨rfl,j⟩;have y:=u.below j;go_wp2_with fail;refine(z.out _).mono ?_;rintro e V⟨rfl,m⟩;have a:=y.below m;have M:Below w.1.size w V:=(((qU _ _).alloc (qK _) _).trans (j.mono (by simp))).trans (m.mono (by have:=j.size;simp at this;omega));have q:=a.c0;have r:=a.c1;have t:=a.c2;have H:=a.fz 0;have I:=a.fz 1;have J:=a.fz 2;have C:=qQ (a.zq A k n);have B:=qQ (rB M (.string A) (.string k) (.float .f64 n));clear u y a j m M;go_wp2_with fail;refine X5 (Q.out _) ?_;go_wp2_with fail;refine KG (S.out _ _) fun w3 p=>?_;have f:=C.out.below p;have T:=bj B.out p;clear p C B q r t H I J;have q:=f.c0;have r:=f.c1;have t:=f.c2;have H:=f.fz 0;have I:=f.fz 1;have J:=f.fz 2;clear f;go_wp2_with fail;go_region
 all_goals
  go_wp2;exact bodyPost_ret (v:=.tuple #[.agg #[A,k,.float .f64 n],.string (L.extract 8 L.size),.bool true]) (by simp[results,Tryz.results252,go_sem,q,r,t]) rfl ⟨rfl,(rB T _ _ _).drew⟩
theorem GR{s:Tw}(h:8<=(erL s).size)(a:chk (rdA s) (rdA (rdB s))=0):yu s=true:=by simp[yu,h,a]
theorem GS{s:Tw}(h:¬8<=(erL s).size):yu s=false:=by simp[yu];omega
theorem GT{s:Tw}(a:¬chk (rdA s) (rdA (rdB s))=0):yu s=false:=by simp[yu,a]
theorem TK(s:Tw)(w:World)(k:s.size<=maxLen):
  Calls prog 252 #[s] w (X3 (.tuple #[.agg #[.string (erT s),.string (erD s),.float .f64 (erW s)],.string (erR s),.bool (yu s)]) w):=by
 by_cases h:8<=(erL s).size
 ·by_cases a:chk (rdA s) (rdA (rdB s))=0
  ·obtain⟨b,f,i,j⟩:=ta (GR h a);rw[b,f,i,j,GR h a];exact TJ s w k h a
  ·obtain⟨b,f,i,j⟩:=Zs (GT a);rw[b,f,i,j,GT a];exact TZ s w k h a
 ·obtain⟨b,f,i,j⟩:=Zs (GS h);rw[b,f,i,j,GS h];exact TX s w k h
end
section
open Go.RowKit Go.Shelf
section
variable {At:jR}(api:jS At)(nap:jw){c:Ctx}{gl gd:Nat}{L L':jq}{D D':jD}{w w':World}
include api nap
abbrev JY(At:jR)(c:Ctx)(gl gd:Nat)(L:jq)(r:Tw × Nat × jD):Ending->World->Prop:=vY At c gl gd (.tuple #[r.1,err r.2.1]) L r.2.2
omit nap in
omit nap in
theorem TV(f:c.m=ptr gl)(h:TSt At c gl gd L D w)(pos:Int)(hw:(Lit.int .i64 pos).wf=true)(r:L.chunks<=200)(t:pos<0∨(L.chunks:Int)<=pos/4096∨pos%4096<12)(k:yG D L=0):Calls prog 80 #[ptr gl,pos] w (JY At c gl gd L (ByteArray.empty,4,D)):=by
 have j:=qQ (oG api f h);rw[k]at j;have u:=bounds_i64 hw;rcases(show pos<0∨0<=pos by omega) with C|y
 ·have H:decide (pos<0)=true:=qB C;clear t h f k r;go_enter func80,ntmps80;go_wp2_with fail;refine j.out.mono ?_;rintro e A⟨rfl,b⟩;have i:=qQ b;clear b;go_wp2;go_ret2;exact⟨rfl,i.out⟩
 ·obtain⟨p,rfl⟩:∃p:Nat,pos=p:=⟨pos.toNat,by omega⟩
  have H:decide ((p:Int)<0)=false:=qA (by omega);have J:(p:Int).tdiv 4096=((p/4096:Nat):Int):=by rw[Int.tdiv_eq_ediv_of_nonneg (by omega)];omega
  have M:(p:Int).tmod 4096=((p%4096:Nat):Int):=by rw[Int.tmod_eq_emod_of_nonneg (by omega)];omega
  have N:IntKind.i64.wrap ((p/4096:Nat):Int)=((p/4096:Nat):Int):=qy _ (by omega);by_cases z:L.chunks<=p/4096
  ·have I:decide ((L.chunks:Int)<=((p/4096:Nat):Int))=true:=qB (by omega);generalize p/4096=q at*;generalize p%4096=a at*;have B:=qQ f;generalize s:(L.chunks:Int)=n at*;have l:=qQ s;clear t h f k z u hw r y;go_enter func80,ntmps80;go_wp2_with fail;refine j.out.mono ?_;rintro e A⟨rfl,b⟩;have o:=b.cells.2.2.2.1;rw[l.out]at o;have i:=qQ b;clear b;go_wp2;go_ret2;exact⟨rfl,i.out⟩
  ·have I:decide ((L.chunks:Int)<=((p/4096:Nat):Int))=false:=qA (by omega);have O:decide (((p%4096:Nat):Int)<12)=true:=qB (by omega);generalize p/4096=q at*;generalize p%4096=a at*;have B:=qQ f;generalize s:(L.chunks:Int)=n at*;have l:=qQ s;clear t h f k z u hw r y;go_enter func80,ntmps80;go_wp2_with fail;refine j.out.mono ?_;rintro e A⟨rfl,b⟩;have o:=b.cells.2.2.2.1;rw[l.out]at o;have i:=qQ b;clear b;go_wp2;go_ret2;exact⟨rfl,i.out⟩
theorem TY(P:c.m=ptr gl)(h:TSt At c gl gd L D w)(ok:WfP D)(aa:D.count<=1000000000)(p:Nat)(hw:(Lit.int .i64 (p:Nat)).wf=true)(hc:L.chunks<=200)(ab:p/4096<L.chunks)(ac:12<=p%4096)(S:yG D L=0):Calls prog 80 #[ptr gl,p] w (JY At c gl gd L (tA D (nmC (p/4096)) (p%4096))):=by
 have R:=qQ (oG api P h);rw[S]at R;have V:=bounds_i64 hw;have t1:decide ((p:Int)<0)=false:=qA (by omega);have e1:(p:Int).tdiv 4096=((p/4096:Nat):Int):=by rw[Int.tdiv_eq_ediv_of_nonneg (by omega)];omega
 have e2:(p:Int).tmod 4096=((p%4096:Nat):Int):=by rw[Int.tmod_eq_emod_of_nonneg (by omega)];omega
 have am:IntKind.i64.wrap ((p/4096:Nat):Int)=((p/4096:Nat):Int):=qy _ (by omega);have t2:decide ((L.chunks:Int)<=((p/4096:Nat):Int))=false:=qA (by omega);have t3:decide (((p%4096:Nat):Int)<12)=false:=qA (by omega);have Z:p%4096<4096:=Nat.mod_lt _ (by omega);have J:p/4096<=999999:=by omega
 generalize p/4096=q at*;generalize p%4096=a at*;generalize Q:(L.chunks:Int)=n at*;have U:=qQ Q;have hz:=tk ok (nmC q);have Y:=qQ fun W=>nX nap q W J
 have H:=ln J;have N:=qQ fun(W:World) (hT:TSt At c gl gd L D W)=>(show Calls prog 129 #[ptr gd,.string (nmC q)] W (vY At c gl gd (.tuple #[.int .i64 ((jk D (nmC q)).1:Nat),err (jk D (nmC q)).2]) L D) from hT.same (api.zI (nmC q) (Classical.choose_spec hT).1 ok.ok H))
 generalize nmC q=l at*;have M:=qQ fun(W:World) (hT:TSt At c gl gd L D W)=>hT.xD api (fun F hF=>api.read l (a:Nat) 4 hF ok.ok (by omega) (hQ (by omega)) (by decide) H)
 unfold tA;by_cases I:(jk D l).2=0
 case neg =>
  rw[qV I];have t4:(((jk D l).2:Int) != 0)=true:=by simp;omega
  generalize (jk D l).2=y at*;generalize (jk D l).1=z at*;clear h ok aa hc ab ac S V hw Q P hz I Z J H M;go_enter func80,ntmps80;go_wp2_with fail;refine KG R.out fun w1 f=>?_;have B:=f.cells.2.2.2.1;rw[U.out]at B;have t:=qQ f;clear f;go_wp2_with fail;refine KG (Y.out _) fun w2 o=>?_;have i:=t.out.below api o;have d1:=i.cells.2.1;have u:=qQ i;clear o i;go_wp2_with fail;refine KG (N.out _ u.out) fun w3 j=>?_;have d3:=j.cells.2.1;have A:=qQ j;clear j;go_wp2;go_ret2;exact⟨rfl,A.out⟩
 rw[qZ (by simp[I])];rw[I]at N;have b3:IntKind.i64.wrap (((jk D l).1:Int)-(a:Nat))=((jk D l).1:Int)-(a:Nat):=qy _ (by omega);have b4:IntKind.i64.wrap (((jk D l).1:Int)-(a:Nat)-12)=((jk D l).1:Int)-(a:Nat)-12:=qy _ (by omega);by_cases O:(jk D l).1<a+12
 ·rw[qV O];have t4:decide (((jk D l).1:Int)-(a:Nat)-12<0)=true:=qB (by omega);generalize (jk D l).1=z at*;clear h ok aa hc ab ac S V hw Q P hz I Z J H M O;go_enter func80,ntmps80;go_wp2_with fail;refine KG R.out fun w1 f=>?_;have B:=f.cells.2.2.2.1;rw[U.out]at B;have t:=qQ f;clear f;go_wp2_with fail;refine KG (Y.out _) fun w2 o=>?_;have i:=t.out.below api o;have d1:=i.cells.2.1;have u:=qQ i;clear o i;go_wp2_with fail;refine KG (N.out _ u.out) fun w3 j=>?_;have d3:=j.cells.2.1;have A:=qQ j;clear j;go_wp2;go_ret2;exact⟨rfl,A.out⟩
 rw[qZ O];have t4:decide (((jk D l).1:Int)-(a:Nat)-12<0)=false:=qA (by omega);have ae:=U2 D l (a:Nat) 4;have T:WfP (vE D l (a:Nat) 4).2.2:=XD ok l (a:Nat) 4;have af:=Zc (n:=l) (a:=(a:Nat)) (k:=4) ok;generalize vE D l (a:Nat) 4=b at*;obtain⟨r,y4,D4⟩:=b;dsimp only at ae T af M ⊢;by_cases ad:y4=0
 case neg =>
  rw[qV ad];have t5:((y4:Int) != 0)=true:=by simp;omega
  generalize (jk D l).1=z at*;clear h ok aa hc ab ac S V hw Q P hz I Z J H O T ae af ad;go_enter func80,ntmps80;go_wp2_with fail;refine KG R.out fun w1 f=>?_;have B:=f.cells.2.2.2.1;rw[U.out]at B;have t:=qQ f;clear f;go_wp2_with fail;refine KG (Y.out _) fun w2 o=>?_;have i:=t.out.below api o;have d1:=i.cells.2.1;have u:=qQ i;clear o i;go_wp2_with fail;refine KG (N.out _ u.out) fun w3 j=>?_;have d3:=j.cells.2.1;have A:=qQ j;clear j;go_wp2_with fail;refine KG (M.out _ A.out) fun w4 s=>?_;have d4:=s.cells.2.1;have C:=qQ s;clear s;go_wp2;go_ret2;exact⟨rfl,C.out⟩
 subst ad;rw[qZ (by simp)];have hG:=qQ fun(W:World)=>dZ r W (by unfold maxLen;omega)
 by_cases ag:2000<jz r
 ·rw[qV (qX ag)];have t6:decide ((2000:Int)<(jz r:Int))=true:=qB (by omega);generalize (jk D l).1=z at*;generalize jz r=g at*;clear h ok aa hc ab ac S V hw Q P hz I Z J H O T ae af ag;go_enter func80,ntmps80;go_wp2_with fail;refine KG R.out fun w1 f=>?_;have B:=f.cells.2.2.2.1;rw[U.out]at B;have t:=qQ f;clear f;go_wp2_with fail;refine KG (Y.out _) fun w2 o=>?_;have i:=t.out.below api o;have d1:=i.cells.2.1;have u:=qQ i;clear o i;go_wp2_with fail;refine KG (N.out _ u.out) fun w3 j=>?_;have d3:=j.cells.2.1;have A:=qQ j;clear j;go_wp2_with fail;refine KG (M.out _ A.out) fun w4 s=>?_;have d4:=s.cells.2.1;have C:=qQ s;clear s;go_wp2_with fail;refine X5 (hG.out _) ?_;go_wp2;go_ret2;exact⟨rfl,C.out⟩
 have t6:decide ((2000:Int)<(jz r:Int))=false:=qA (by omega);have b5:IntKind.i64.wrap (jz r:Int)=(jz r:Int):=qy _ (by omega);by_cases ah:(jk D l).1<a+12+jz r
 ·rw[qV (qY ah)];have t7:decide (((jk D l).1:Int)-(a:Nat)-12<(jz r:Int))=true:=qB (by omega);generalize (jk D l).1=z at*;generalize jz r=g at*;clear h ok aa hc ab ac S V hw Q P hz I Z J H O T ae af ag ah;go_enter func80,ntmps80;go_wp2_with fail;refine KG R.out fun w1 f=>?_;have B:=f.cells.2.2.2.1;rw[U.out]at B;have t:=qQ f;clear f;go_wp2_with fail;refine KG (Y.out _) fun w2 o=>?_;have i:=t.out.below api o;have d1:=i.cells.2.1;have u:=qQ i;clear o i;go_wp2_with fail;refine KG (N.out _ u.out) fun w3 j=>?_;have d3:=j.cells.2.1;have A:=qQ j;clear j;go_wp2_with fail;refine KG (M.out _ A.out) fun w4 s=>?_;have d4:=s.cells.2.1;have C:=qQ s;clear s;go_wp2_with fail;refine X5 (hG.out _) ?_;go_wp2;go_ret2;exact⟨rfl,C.out⟩
 rw[qZ (by omega)];have t7:decide (((jk D l).1:Int)-(a:Nat)-12<(jz r:Int))=false:=qA (by omega);have b6:IntKind.i64.wrap ((jz r:Int)+12)=((jz r+12:Nat):Int):=by rw[Int.natCast_add];exact qy _ (by omega)
 have b7:(jz r:Int)+12=((jz r+12:Nat):Int):=by omega
 have ai:=qQ fun(W:World) (hT:TSt At c gl gd L D4 W)=>hT.xD api (fun F hF=>api.read l (a:Nat) ((jz r+12:Nat):Int) hF T.ok (by omega) (hQ (by omega)) (hQ (by omega)) H)
 have ak:=Zc (n:=l) (a:=(a:Nat)) (k:=((jz r+12:Nat):Int)) T;generalize vE D4 l (a:Nat) ((jz r+12:Nat):Int)=b at*;obtain⟨s5,y5,D5⟩:=b;dsimp only at ak ai ⊢;have b8:IntKind.i64.wrap ((jz r+12:Nat):Int)=((jz r+12:Nat):Int):=qy _ (by omega);generalize al:((jz r+12:Nat):Int)=an at*;by_cases ad:y5=0
 case neg =>
  rw[qV ad];have t8:((y5:Int) != 0)=true:=by simp;omega
  generalize (jk D l).1=z at*;generalize jz r=g at*;clear h ok aa hc ab ac S V hw Q P hz I Z J H O T ae af ag ah ak ad al;go_enter func80,ntmps80;go_wp2_with fail;refine KG R.out fun w1 f=>?_;have B:=f.cells.2.2.2.1;rw[U.out]at B;have t:=qQ f;clear f;go_wp2_with fail;refine KG (Y.out _) fun w2 o=>?_;have i:=t.out.below api o;have d1:=i.cells.2.1;have u:=qQ i;clear o i;go_wp2_with fail;refine KG (N.out _ u.out) fun w3 j=>?_;have d3:=j.cells.2.1;have A:=qQ j;clear j;go_wp2_with fail;refine KG (M.out _ A.out) fun w4 s=>?_;have d4:=s.cells.2.1;have C:=qQ s;clear s;go_wp2_with fail;refine X5 (hG.out _) ?_;go_wp2_with fail;refine KG (ai.out _ C.out) fun w5 X=>?_;have H5:=qQ X;clear X;go_wp2;go_ret2;exact⟨rfl,H5.out⟩
 subst ad;rw[qZ (by simp)];have hK:=qQ fun(W:World)=>Uq s5 0 W (by unfold maxLen;omega) (by decide)
 unfold mr at hK;cases aj:bP s5 0
 ·rw[qZ (by simp)];rw[aj]at hK;generalize (jk D l).1=z at*;generalize jz r=g at*;generalize dK s5 0=pp at*;generalize yU s5 0=nn at*;clear h ok aa hc ab ac S V hw Q P hz I Z J H O T ae af ag ah ak al aj;go_enter func80,ntmps80;go_wp2_with fail;refine KG R.out fun w1 f=>?_;have B:=f.cells.2.2.2.1;rw[U.out]at B;have t:=qQ f;clear f;go_wp2_with fail;refine KG (Y.out _) fun w2 o=>?_;have i:=t.out.below api o;have d1:=i.cells.2.1;have u:=qQ i;clear o i;go_wp2_with fail;refine KG (N.out _ u.out) fun w3 j=>?_;have d3:=j.cells.2.1;have A:=qQ j;clear j;go_wp2_with fail;refine KG (M.out _ A.out) fun w4 s=>?_;have d4:=s.cells.2.1;have C:=qQ s;clear s;go_wp2_with fail;refine X5 (hG.out _) ?_;go_wp2_with fail;refine KG (ai.out _ C.out) fun w5 X=>?_;have H5:=qQ X;clear X;go_wp2_with fail;refine KG (hK.out _) fun w6 o=>?_;have H6:=qQ (H5.out.below api o);clear o;go_wp2;go_ret2;exact⟨rfl,H6.out⟩
 ·rw[qV rfl];rw[aj]at hK;generalize (jk D l).1=z at*;generalize jz r=g at*;generalize dK s5 0=pp at*;generalize yU s5 0=nn at*;clear h ok aa hc ab ac S V hw Q P hz I Z J H O T ae af ag ah ak al aj;go_enter func80,ntmps80;go_wp2_with fail;refine KG R.out fun w1 f=>?_;have B:=f.cells.2.2.2.1;rw[U.out]at B;have t:=qQ f;clear f;go_wp2_with fail;refine KG (Y.out _) fun w2 o=>?_;have i:=t.out.below api o;have d1:=i.cells.2.1;have u:=qQ i;clear o i;go_wp2_with fail;refine KG (N.out _ u.out) fun w3 j=>?_;have d3:=j.cells.2.1;have A:=qQ j;clear j;go_wp2_with fail;refine KG (M.out _ A.out) fun w4 s=>?_;have d4:=s.cells.2.1;have C:=qQ s;clear s;go_wp2_with fail;refine X5 (hG.out _) ?_;go_wp2_with fail;refine KG (ai.out _ C.out) fun w5 X=>?_;have H5:=qQ X;clear X;go_wp2_with fail;refine KG (hK.out _) fun w6 o=>?_;have H6:=qQ (H5.out.below api o);clear o;go_wp2;go_ret2;exact⟨rfl,H6.out⟩
theorem JU(b:c.m=ptr gl)(h:TSt At c gl gd L D w)(ok:WfP D)(k:D.count<=1000000000)(pos:Int)(hw:(Lit.int .i64 pos).wf=true)(f:L.chunks<=200):Calls prog 80 #[ptr gl,pos] w (JY At c gl gd L (lj D L pos)):=by
 unfold lj;by_cases a:yG D L=0
 ·rw[qZ (by simp[a])];by_cases i:pos<0∨(L.chunks:Int)<=pos/4096∨pos%4096<12
  ·rw[qV i];exact TV api b h pos hw f i a
  ·rw[qZ i];obtain⟨p,rfl⟩:∃p:Nat,pos=p:=⟨pos.toNat,by omega⟩
   have n:((p:Int)/4096).toNat=p/4096:=(by omega);have o:((p:Int)%4096).toNat=p%4096:=(by omega);rw[n,o];exact TY api nap b h ok k p hw f (by omega) (by omega) a
 ·rw[qV a];have q:=qQ (oG api b h);have t:((yG D L:Int) != 0)=true:=by simp;omega
  generalize yG D L=y at*;clear h ok k hw f a b;go_enter func80,ntmps80;go_wp2_with fail;refine q.out.mono ?_;rintro e r⟨rfl,j⟩;have l:=qQ j;clear j;go_wp2;go_ret2;exact⟨rfl,l.out⟩
end
end
section
open Go.RowKit
theorem G3(b:Nat)(w:World)(f:b<18446744073709551616):
  Calls prog 214 #[.float .f64 b] w (X0 (.int .u64 (bO b:Nat)) w):=by
 have a:=fun w=>Ze b w
 by_cases h:9223372036854775808<=b
 ·have t:decide ((9223372036854775808:Int)<=(b:Int))=true:=Dw h;have e:(18446744073709551615:Int)-(b:Int)=((bO b:Nat):Int):=by unfold bO;rw[qZ (by omega)];omega
  go_enter func214,ntmps214;go_wp2;go_ret;exact⟨rfl,rfl⟩
 ·have t:decide ((9223372036854775808:Int)<=(b:Int))=false:=FQ h;have e:(b:Int)+9223372036854775808=((bO b:Nat):Int):=by unfold bO;rw[qV (by omega)];omega
  go_enter func214,ntmps214;go_wp2;go_ret;exact⟨rfl,rfl⟩
theorem TU(a b:Nat)(w:World)(f:a<18446744073709551616)(i:b<18446744073709551616):
  Calls prog 159 #[.float .f64 a,.float .f64 b] w (X0 (.bool (decide (a=b))) w):=by
 have j:=qQ (fun w=>G3 a w f);have k:=qQ (fun w=>G3 b w i)
 have e:((bO a:Int)==(bO b:Int))=decide (a=b):=by
  by_cases h:a=b
  ·subst h;simp
  ·rw[qA h];have:¬bO a=bO b:=fun e=>h (Fy f i e)
   exact qg.2 (by omega)
 generalize bO a=x at*;generalize bO b=y at*;generalize decide (a=b)=d at*;clear f i;go_enter func159,ntmps159;go_wp2_with fail;refine X5 (j.out _) ?_;go_wp2_with fail;refine X5 (k.out _) ?_;go_wp2;go_ret;exact⟨rfl,rfl⟩
theorem G4(t d:Tw)(b:Nat)(w:World)(i:t.size<=maxLen)(f:d.size<=maxLen):
  Calls prog 100 #[.agg #[t,d,.float .f64 b]] w (X3 (.int .i64 (chk t d)) w):=by
 unfold maxLen at i f;by_cases a:t.size=0
 ·rw[Uu a];go_enter func100,ntmps100;go_wp2;go_ret;exact⟨rfl,(qU _ _).alloc (qK _) _⟩
 by_cases j:16<t.size
 ·rw[tm a (by omega)];go_enter func100,ntmps100;go_wp2;go_ret;exact⟨rfl,(qU _ _).alloc (qK _) _⟩
 by_cases k:200<d.size
 ·rw[tm a (by omega)];go_enter func100,ntmps100;go_wp2;go_ret;exact⟨rfl,(qU _ _).alloc (qK _) _⟩
 ·rw[Ug a (by omega)];go_enter func100,ntmps100;go_wp2;go_ret;exact⟨rfl,(qU _ _).alloc (qK _) _⟩
theorem G5(s:Tw)(f:s.size<=200)(W0 W:World)(h:Below W0.1.size W0 W):
  Calls prog 101 #[s] W fun e w'=>e=.returned (.string (bs (be 2 s.size)++s))/\Below W0.1.size W0 w' :=
 (U0 s W (by omega)).mono fun e w' ⟨b,a⟩=>⟨b,bj h a⟩
theorem TG(b:Nat)(a:b<18446744073709551616)(W0 W:World)(h:Below W0.1.size W0 W):
  Calls prog 102 #[.int .u64 (b:Nat),.int .i64 8] W fun e w'=>e=.returned (.string (bs (be 8 b)))/\Below W0.1.size W0 w' :=
 (Vj b 8 W (by omega) (by omega) a).mono fun e w' ⟨f,a⟩=>⟨f,bj h a⟩
theorem TW(t d:Tw)(b:Nat)(w:World)(i:b<18446744073709551616)(h:chk t d=0):
  Calls prog 103 #[.agg #[t,d,.float .f64 b]] w (X3 (.string (evB t d b)) w):=by
 have A:=oI.1 h;have k:=fun W=>G4 t d b W (by unfold maxLen;omega) (by unfold maxLen;omega)
 rw[h]at k;have s:=qQ k;have o:=qQ (G5 t (by omega));have l:=qQ (G5 d (by omega));have m:=qQ (TG b i);have O:=fun w=>Ze b w
 have q:(bs (be 2 t.size)++t).size=t.size+2:=by rw[qx,kK,jn];omega
 have r:(bs (be 2 d.size)++d).size=d.size+2:=by rw[qx,kK,jn];omega
 have M:(bs (be 8 b)).size=8:=by rw[kK,jn]
 have e:evB t d b=bs (be 2 t.size)++t++(bs (be 2 d.size)++d)++bs (be 8 b):=rfl;have R:∀w:World,(Op.stringOp .add (bs (be 2 t.size)++t) (bs (be 2 d.size)++d)).run prog w=.ok (.string (bs (be 2 t.size)++t++(bs (be 2 d.size)++d))) w:=fun w=>run_string_add_sum (P:=prog) (w:=w) _ _ (by omega)
 have N:(bs (be 2 t.size)++t++(bs (be 2 d.size)++d)).size=t.size+2+(d.size+2):=by rw[qx,q,r]
 have S:∀w:World,(Op.stringOp .add (bs (be 2 t.size)++t++(bs (be 2 d.size)++d)) (bs (be 8 b))).run prog w=.ok (.string (evB t d b)) w:=fun w=>run_string_add_sum (P:=prog) (w:=w) _ _ (by omega)
 generalize evB t d b=B at*;generalize bs (be 2 t.size)++t++(bs (be 2 d.size)++d)=X at*;generalize bs (be 2 t.size)++t=T at*;generalize bs (be 2 d.size)++d=D at*;generalize bs (be 8 b)=Q at*;clear q r M N e k h A i;go_enter func103,ntmps103;go_wp2_with fail;refine(s.out _).mono ?_;rintro e a⟨rfl,f⟩;have C:=f.size;rw[World.size_alloc]at C;have H:a.cell? ⟨w.1.size,0,none⟩=some (.string t):=jm f (by simp) (World.cell?_alloc_at _ _ _ _ rfl);have I:a.cell? ⟨w.1.size,1,none⟩=some (.string d):=jm f (by simp) (World.cell?_alloc_at _ _ _ _ rfl);have J:a.cell? ⟨w.1.size,2,none⟩=some (.float .f64 b):=jm f (by simp) (World.cell?_alloc_at _ _ _ _ rfl);have p:Below w.1.size w a:=((qU _ _).alloc (qK _) _).trans (f.mono (by simp))
 have n:Hid (∀W,Below a.1.size a W->Below a.1.size a W/\W.cell? ⟨w.1.size,0,none⟩=some (.string t)/\W.cell? ⟨w.1.size,1,none⟩=some (.string d)/\W.cell? ⟨w.1.size,2,none⟩=some (.float .f64 b)) :=
  qQ fun W j=>⟨j,jm j (show w.1.size<_ by omega) H,jm j (show w.1.size<_ by omega) I,jm j (show w.1.size<_ by omega) J⟩
 have z:=qQ fun W (h:Below a.1.size a W/\W.cell? ⟨w.1.size,0,none⟩=some (.string t)/\W.cell? ⟨w.1.size,1,none⟩=some (.string d)/\W.cell? ⟨w.1.size,2,none⟩=some (.float .f64 b))=>o.out a W h.1
 have u:=qQ fun W (h:Below a.1.size a W/\W.cell? ⟨w.1.size,0,none⟩=some (.string t)/\W.cell? ⟨w.1.size,1,none⟩=some (.string d)/\W.cell? ⟨w.1.size,2,none⟩=some (.float .f64 b))=>l.out a W h.1
 have y:=qQ fun W (h:Below a.1.size a W/\W.cell? ⟨w.1.size,0,none⟩=some (.string t)/\W.cell? ⟨w.1.size,1,none⟩=some (.string d)/\W.cell? ⟨w.1.size,2,none⟩=some (.float .f64 b))=>m.out a W h.1
 clear f o l m;go_wp2_with fail
 go_region_held3 (fun W=>Below a.1.size a W/\W.cell? ⟨w.1.size,0,none⟩=some (.string t)/\W.cell? ⟨w.1.size,1,none⟩=some (.string d)/\W.cell? ⟨w.1.size,2,none⟩=some (.float .f64 b))
  (first|assumption|exact n.out _ (by assumption)|exact n.out _ (qU _ _).drew|fail) (first
  | (go_at_call 101;((with_reducible refine KG (z.out _ (by assumption)) fun w' i=>?_)))
  | (go_at_call 101;((with_reducible refine KG (u.out _ (by assumption)) fun w' i=>?_)))
  | (go_at_call 102;((with_reducible refine KG (y.out _ (by assumption)) fun w' i=>?_)))
  | fail)
 all_goals
  go_wp2;go_ret;exact⟨rfl,p.trans ((And.left (‹Below a.1.size a _/\_›)).mono p.size)⟩
theorem TA(t d:Tw)(b:Nat)(k j:Tw)(a:Nat)(w:World)(m:b<18446744073709551616)(n:a<18446744073709551616):
  Calls prog 96 #[.agg #[t,d,.float .f64 b],.agg #[k,j,.float .f64 a]] w (X3 (.bool (ti t d b k j a)) w):=by
 have o:=qQ fun W=>TU b a W m n
 have l:Below w.1.size w ((w.alloc (.cells #[t,d,.float .f64 b] 64)).alloc (.cells #[k,j,.float .f64 a] 64)):=((qU _ _).alloc (qK _) _).alloc (by simp) _;unfold ti;generalize decide (b=a)=q at*;clear m n;by_cases f:t=k
 ·have p:=oL f;rw[qB f];clear f;by_cases i:d=j
  ·have r:=oL i;rw[qB i];clear i;go_enter func96,ntmps96;go_wp2_with fail;refine X5 (o.out _) ?_;go_wp2;go_ret;exact⟨rfl,l⟩
  ·have r:=rU i;rw[qA i];clear i;go_enter func96,ntmps96;go_wp2_with fail;go_ret;exact⟨rfl,l⟩
 ·have p:=rU f;rw[qA f];clear f;go_enter func96,ntmps96;go_wp2_with fail;go_ret;exact⟨rfl,l⟩
end
end Go.Proofs.YthejglbnkmimjaaGreat

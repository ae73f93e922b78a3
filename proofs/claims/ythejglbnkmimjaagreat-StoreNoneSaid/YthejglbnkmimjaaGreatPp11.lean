import Derived.Sort.Walk0
import Derived.Sort.KeysCollected
import Derived.Deep.AppendSrc
import Derived.Test.YthejglbnkmimjaaGreatPp07
set_option linter.unusedVariables false
set_option maxRecDepth 100000
set_option maxHeartbeats 9000000
namespace Go.Proofs.YthejglbnkmimjaaGreat
open Tryz
section
open Go.RowKit
theorem fC(a b:Tw):kB a b=true↔a.data.toList<b.data.toList:=by
 unfold kB;rw[bytesLess_eq,ByteArray.toList_eq,ByteArray.toList_eq];exact decide_eq_true_iff
theorem Js{a b:Tw}(h:a.data.toList=b.data.toList):a=b:=ByteArray.ext (Array.toList_inj.1 h)
theorem lA(a:Tw):¬kB a a=true:=fun h=>List.lt_irrefl _ ((fC a a).1 h)
theorem tI{a b c:Tw}(h:kB a b=true)(k:kB b c=true):kB a c=true:=(fC a c).2 (List.lt_trans ((fC a b).1 h) ((fC b c).1 k))
theorem Lj{a b:Tw}(h:¬kB a b=true)(i:a≠b):kB b a=true:=by
 rw[fC]at h ⊢;have f:b.data.toList<=a.data.toList:=List.not_lt.1 h;rcases Decidable.em (b.data.toList<a.data.toList) with c|c
 ·exact c
 ·exact absurd (Js (List.le_antisymm (List.not_lt.1 c) f)) i
def yq(l:List zi):Prop:=l.Pairwise (fun x y=>kB x.name y.name=true)
theorem yq.ne{l:List zi}(h:yq l){i j:Nat}{x y:zi}(hi:l[i]? = some x)(a:l[j]? = some y)(c:i<j):kB x.name y.name=true:=by
 have b:=(qM.1 a).1;have:=List.pairwise_iff_getElem.1 h i j (by omega) b c;rw[qD (by omega)]at hi;rw[qD b]at a;injection hi with hi;injection a with a;rw[hi,a]at this;exact this
theorem nZ{l:List zi}{n:Tw}(h:¬jW l n<l.length):∀x∈l,x.name≠n:=by
 intro x b e;obtain⟨j,a⟩:=List.getElem?_of_mem b;have:=UW a e;have:=(qM.1 a).1;omega
theorem Lv(l:List zi)(n:Tw):∀x∈l.take (vO l n),kB x.name n=true:=by
 intro x c;obtain⟨j,a⟩:=List.getElem?_of_mem c;have b:=(qM.1 a).1;rw[qq]at b;rw[List.getElem?_take,qK (by omega),qD (by omega)]at a;injection a with a;have:=List.not_of_lt_findIdx (p:=fun f=>!kB f.name n) (xs:=l) (i:=j) (by unfold vO at b;omega);rw[a]at this;simpa using this
theorem Ly(l:List zi)(n:Tw)(q:yq l)(o:∀x∈l,x.name≠n):∀x∈l.drop (vO l n),kB n x.name=true:=by
 intro x r;obtain⟨j,a⟩:=List.getElem?_of_mem r;rw[List.getElem?_drop]at a;have t:=(qM.1 a).1;have b:vO l n<l.length:=by omega
 have m:l.findIdx (fun f=>!kB f.name n)<l.length:=b;have i:=List.findIdx_getElem (p:=fun f=>!kB f.name n) (xs:=l) (w:=m)
 have k:¬kB (l[vO l n]).name n=true:=by
  have:(!kB (l[vO l n]).name n)=true:=i;simpa using this
 have c:=Lj k (o _ (List.getElem_mem b));rcases Nat.eq_zero_or_pos j with rfl|s
 ·rw[Nat.add_zero,qD b]at a;injection a with a;rw[<-a];exact c
 ·exact tI c (q.ne (qD b) a (by omega))
theorem Jt{l:List zi}(j:yq l)(f:zi)(o:∀x∈l,x.name≠f.name):yq (kH l f):=by
 unfold kH yq;have k:=Lv l f.name;have m:=Ly l f.name j o;have p:(l.take (vO l f.name)).Pairwise (fun x y=>kB x.name y.name=true):=List.Pairwise.sublist (List.take_sublist _ _) j;have n:(l.drop (vO l f.name)).Pairwise (fun x y=>kB x.name y.name=true):=List.Pairwise.sublist (List.drop_sublist _ _) j;rw[qd];refine List.pairwise_append.2 ⟨p,List.pairwise_append.2 ⟨List.pairwise_singleton _ _,n,fun a i b c=>?_⟩,fun a i b c=>?_⟩
 ·obtain rfl:a=f:=by simpa using i
  exact m b c
 ·rcases qC.1 c with c|c
  ·obtain rfl:b=f:=(by simpa using c);exact k a i
  ·exact tI (k a i) (m b c)
theorem tL{l:List zi}(p:yq l)(i:Nat):yq (ku l i):=by
 unfold ku yq;have e:l=l.take i++l.drop i:=(ql i l).symm;have f:(l.take i++l.drop i).Pairwise (fun x y=>kB x.name y.name=true):=by rw[ql];exact p
 obtain⟨j,k,m⟩:=List.pairwise_append.1 f;have c:(l.drop (i+1)).Sublist (l.drop i):=by rw[<-List.drop_drop];exact List.drop_sublist _ _
 exact List.pairwise_append.2 ⟨j,k.sublist c,fun a n b o=>m a n b (c.subset o)⟩
theorem Lu{l:List zi}(k:yq l){c:List (List UInt8)}(j:c.Perm (l.map (fun f=>f.name.data.toList))):c.mergeSort (fun x y=>decide (x<=y))=l.map (fun f=>f.name.data.toList):=by
 have i:c.mergeSort leB=(l.map (fun f=>f.name.data.toList)).mergeSort leB:=mergeSort_of_perm j;refine Eq.trans i (List.mergeSort_of_pairwise ?_);refine List.pairwise_map.2 (k.imp fun {a b} h=>?_);show decide (a.name.data.toList<=b.name.data.toList)=true;exact qW (List.le_of_lt ((fC _ _).1 h))
theorem Ja{l:List zi}(c:yq l):(l.map (fun f=>f.name.data.toList)).Nodup:=by
 refine List.pairwise_map.2 (c.imp fun {a b} h e=>?_);have:=(fC _ _).1 h;rw[e]at this;exact List.lt_irrefl _ this
theorem Je{l:List zi}(c:yq l):l.Pairwise (fun x y=>x.name≠y.name):=c.imp fun {a b} h e=>by rw[e]at h;exact lA _ h
end
section
open Go.RowKit
open Go.Maps (Keyed)
def yx: Value->Option (DataW Unit × List MemPlace)
 | .pointer none=>some (.lit (.int .i64 (-1)),[])
 | .pointer (some ⟨b,0,none⟩)=>some (.lit (.int .i64 (b:Int)),[])
 | _=>none
theorem pJ{v:Value}{y:DataW Unit × List MemPlace}(h:yx v=some y):(v = .pointer none/\y.1 = .lit (.int .i64 (-1)))∨∃b:Nat,v = .pointer (some ⟨b,0,none⟩)/\y.1 = .lit (.int .i64 (b:Int)):=by
 unfold yx at h;split at h
 ·injection h with h;subst h;exact qX ⟨rfl,rfl⟩
 ·rename_i b;injection h with h;subst h;exact qY ⟨b,rfl,rfl⟩
 ·cases h
def vL(n:Tw):Lit:=.string n.data.toList
theorem lB{a b:Tw}(h:vL a=vL b):a=b:=by unfold vL at h;injection h with h;exact Js h
theorem tM{n:Tw}(h:n.size<=maxLen):keyOf prog 9 (.string n)=some (vL n):=Go.WideMaps.keyOf_string_mk Tryz.underlying9 h
theorem Ji(n:Tw):WideAt.IsKeyLit (vL n):=trivial
theorem fD: Keyed prog 9:=Maps.string_keyed Tryz.underlying9
theorem Lg(w:World):(zeroValue 149).run prog w = .ok (.pointer none) w:=by kernel_rfl
structure bf(D0:DataW Unit)(L:List (Tw × Nat)):Prop where
 yes:∀x∈L,∀zd,D0.atKey (vL x.1) zd = .lit (.int .i64 (x.2:Int))
 no:∀n:Tw,(∀x∈L,x.1≠n)->Maps.has D0 (vL n)=false
def ka(w:World)(mb:Nat)(L:List (Tw × Nat)):Prop:=∃n D0,w.ownsMap prog 9 yx mb n D0/\bf D0 L
section
variable {w w':World}{mb:Nat}{L L':List (Tw × Nat)}{D0:DataW Unit}{F:List Nat}
theorem Lb{n:Nat}(h:w.ownsMap prog 9 yx mb n D0)(j:ze F w w')(i:mb ∉ F):w'.ownsMap prog 9 yx mb n D0:=by
 have f:=h.lt;obtain⟨b,a,c,r⟩:=h;exact⟨b,a,(j.block mb f i).trans c,r⟩
theorem ka.qa(h:ka w mb L)(f:ze F w w')(c:mb ∉ F):ka w' mb L:=by
 obtain⟨n,D0,a,b⟩:=h;exact⟨n,D0,Lb a f c,b⟩
theorem ka.lt(h:ka w mb L):mb<w.heap.size:=by
 obtain⟨n,D0,a,b⟩:=h;exact a.lt
theorem ka.ne{g:Nat}{t:TypeId}{cs:Array Value}(h:ka w mb L)(b:za w g t cs):mb≠g:=by
 rintro rfl;obtain⟨n,D0,⟨f,c,a,_⟩,_⟩:=h;unfold za at b;rw[b]at a;cases a
theorem ka.own_ne{base size n:Nat}{e:TypeId}{v:Value}{xs:List Value}(h:ka w mb L)(i:w.ownsRow base e size v n xs):v.ownBlock≠some mb:=by
 intro b;rcases i.2 with⟨rfl,_⟩|⟨a,j,c,rfl,_,f,_⟩
 ·cases b
 ·obtain rfl:a=mb:=by simpa[Value.ownBlock] using b
  exact h.ne (show za w a e c from f) rfl
theorem bf.has(h:bf D0 L){x:Tw × Nat}(a:x∈L):Maps.has D0 (vL x.1)=true:=Maps.has_true_of_atKey (h.yes x a)
theorem bf.mem(h:bf D0 L){n:Tw}(a:Maps.has D0 (vL n)=true):∃x∈L,x.1=n:=by
 rcases Classical.em (∃x∈L,x.1=n) with c|c
 ·exact c
 ·have:=h.no n (fun x b e=>c ⟨x,b,e⟩);rw[a]at this;cases this
theorem Jo{n:Nat}(h:w.ownsMap prog 9 yx mb n D0){m:Tw}(j:m.size<=maxLen):
  ∃v k,(Instr.lookup 80 (.map (some mb)) (.string m) false).run prog w = .ok v w/\yx v=some (D0.atKey (vL m) (.lit (.int .i64 (-1))),k):=by
 obtain⟨o,l,i,F,_,rfl⟩:=h;rcases Maps.fit_look false fD Tryz.underlying80 (Lg w) i F (tM j) with⟨b,_,a⟩|⟨c,y,_,_,b,f,a,_⟩
 ·exact⟨_,[],b,by rw[a];rfl⟩
 ·exact⟨c.val,y.2,b,by rw[a];exact f⟩
theorem ka.look(h:ka w mb L){m:Tw}(j:m.size<=maxLen){b:Nat}(l:(m,b)∈L):
  (Instr.lookup 80 (.map (some mb)) (.string m) false).run prog w = .ok (.pointer (some ⟨b,0,none⟩)) w:=by
 obtain⟨n,D0,f,i⟩:=h;obtain⟨v,o,k,a⟩:=Jo f j;rw[i.yes (m,b) l]at a;rcases pJ a with⟨rfl,e⟩|⟨c,rfl,e⟩
 ·simp only[DataW.lit.injEq,Lit.int.injEq,true_and]at e;omega
 ·simp only[DataW.lit.injEq,Lit.int.injEq,true_and]at e;obtain rfl:b=c:=by omega
  exact k
theorem ka.xw(h:ka w mb L){m:Tw}(f:m.size<=maxLen)(j:∀x∈L,x.1≠m):
  (Instr.lookup 80 (.map (some mb)) (.string m) false).run prog w = .ok (.pointer none) w:=by
 obtain⟨n,D0,b,c⟩:=h;obtain⟨v,l,i,a⟩:=Jo b f;rw[Maps.atKey_of_not_has (c.no m j)]at a;rcases pJ a with⟨rfl,e⟩|⟨k,rfl,e⟩
 ·exact i
 ·simp only[DataW.lit.injEq,Lit.int.injEq,true_and]at e;omega
theorem bf.keys{n:Nat}(h:bf D0 L)(i:w.ownsMap prog 9 yx mb n D0)(j:(L.map (fun x=>x.1.data.toList)).Nodup):(L.map (fun x=>x.1.data.toList)).Perm (strKeys D0):=by
 obtain⟨o,e,c,_⟩:=i.entries fD;obtain⟨q,b,k⟩:=i.keysOf;rw[e]at b;injection b with b;subst b;rw[e];refine perm_strKeys c (fun p c=>?_) j (fun x=>?_)
 ·obtain⟨v,m⟩:=k p c;obtain⟨x,_,a,_⟩:=Maps.keyOf_str Tryz.underlying9 m;exact⟨x,a⟩
 ·rw[<-e];constructor
  ·intro a;obtain⟨y,f,rfl⟩:=qN.1 a;exact h.has f
  ·intro a;obtain⟨y,f,l⟩:=h.mem (n:=⟨x.toArray⟩) (by unfold vL;simpa using a);exact qN.2 ⟨y,f,by rw[l]⟩
theorem bf.size{n:Nat}(h:bf D0 L)(b:w.ownsMap prog 9 yx mb n D0)(c:(L.map (fun x=>x.1.data.toList)).Nodup):Maps.size D0=L.length:=by
 have:=(h.keys b c).length_eq;obtain⟨a,e,_⟩:=b.entries fD;rw[e]at this ⊢;rw[qj]at this;show a.length=_;rw[this];show _=(a.map _).length;rw[qj]
theorem ka.len(h:ka w mb L)(f:(L.map (fun x=>x.1.data.toList)).Nodup)(b:TypeId):(Builtin.len_ #[80] b #[.map (some mb)]).run prog w = .ok (.int .i64 (L.length:Nat)) w:=by
 obtain⟨n,D0,a,c⟩:=h;rw[a.len Tryz.underlying80 b,c.size a f]
theorem Ld{n:Nat}(f:w.ownsMap prog 9 yx mb n D0):w.ownsMap prog 9 yx mb (Maps.size D0) D0:=by
 obtain⟨a,b,c,F,i,rfl⟩:=f;refine⟨a,b,c,F, ?_,rfl⟩;exact Nat.le_of_eq (length_read (R0:=yx) a).symm
theorem ka.store(h:ka w mb L)(r:(L.map (fun x=>x.1.data.toList)).Nodup)(I:L.length<=400){m:Tw}(u:m.size<=maxLen){b:Nat}
  (o:(m,b)∈L') (p:∀x∈L',x=(m,b)∨(x∈L/\x.1≠m)) (q:∀x∈L,x.1≠m->x∈L'):
  ∃w',(Instr.mapUpdate 80 (.map (some mb)) (.string m) (.pointer (some ⟨b,0,none⟩))).run prog w = .ok () w'/\ka w' mb L'/\ze [mb] w w':=by
 obtain⟨n,D0,f,c⟩:=h;have A:=c.size f r;obtain⟨w',z,y,B⟩:=(Ld f).store fD Tryz.underlying80 (by rw[A];unfold maxLen;omega) (tM u) (val:=.pointer (some ⟨b,0,none⟩)) rfl;refine⟨w',z,⟨_,_,y,⟨fun x i H=>?_,fun s j=>?_⟩⟩,(ze.refl [mb] w).grown B.grown (fun k t=>qX (by simpa using t.symm))⟩
 ·rcases p x i with rfl|⟨C,a⟩
  ·exact Maps.atKey_put_same f.isMap (Ji _) _ _
  ·rw[Maps.atKey_put_other (fun e=>a (lB e))];exact c.yes x C H
 ·have a:m≠s:=j (m,b) o;rw[Maps.has_put_other (fun e=>a (lB e).symm)];refine c.no s (fun x i e=>?_);exact j x (q x i (fun l=>a (l.symm.trans e))) e
theorem ka.drop(h:ka w mb L){m:Tw}(p:m.size<=maxLen)(j:∀x∈L',x∈L/\x.1≠m)(l:∀x∈L,x.1≠m->x∈L')(f:TypeId):
  ∃w',(Builtin.delete_ #[80,9] f #[.map (some mb),.string m]).run prog w = .ok (.tuple #[]) w'/\ka w' mb L'/\ze [mb] w w':=by
 obtain⟨n,D0,q,c⟩:=h;obtain⟨w',t,r,y⟩:=q.drop fD Tryz.underlying80 (tM p) f;refine⟨w',t,⟨_,_,r,⟨fun x b A=>?_,fun s u=>?_⟩⟩,(ze.refl [mb] w).grown y.grown (fun k o=>qX (by simpa using o.symm))⟩
 ·obtain⟨z,a⟩:=j x b;rw[Maps.atKey_del_other (fun e=>a (lB e))];exact c.yes x z A
 ·rcases Decidable.em (s=m) with rfl|a
  ·exact Maps.has_del_same
  ·rw[Maps.has_del_other (fun e=>a (lB e))];refine c.no s (fun x b e=>?_);exact u x (l x b (fun i=>a (e.symm.trans i))) e
end
theorem ka.made(w:World)(o:Obj)(a:o = .map #[] 0):ka (w.alloc o) w.heap.size []:=by
 subst a;exact⟨_,_,World.ownsMap_made _ _ _ _,⟨fun x b=>(by cases b),fun n _=>rfl⟩⟩
end
section
open Go.RowKit
theorem Lh(d:Tw)(j:Nat):(byteCells d)[j]? = (d.data[j]?).map (fun b=>Value.int .u8 (b.toNat:Int)):=by
 unfold byteCells;rw[qz,Array.getElem?_toList]
theorem Ll(d s:Tw):byteCells (d++s)=byteCells d++byteCells s:=by
 unfold byteCells;rw[ByteArray.data_append,Array.toList_append,List.map_append]
theorem Lm(d:Tw)(m:Nat):byteCells (d.extract 0 m)=(byteCells d).take m:=by
 unfold byteCells;rw[ByteArray.data_extract,Array.toList_extract,<-List.map_take];simp
theorem Ln(d:Tw):∀u∈byteCells d,u.oneCell'=true:=by
 intro u a;obtain⟨b,_,rfl⟩:=qN.1 a;rfl
abbrev uT(w:World)(base:Nat)(v:Value)(d:Tw):Prop:=w.ownsRow base 5 1 v d.size (byteCells d)
theorem Lp(w:World)(base:Nat):uT w base (.slice none 0 0) ByteArray.empty:=World.ownsRow_nil w base _ 1
section
variable {w:World}{base:Nat}{v:Value}{d:Tw}
theorem dL(h:uT w base v d):∃A a,v = .slice A d.size a/\d.size<=a/\a<=maxLen/\(0<a->∃b,A=some ⟨b,0,none⟩/\base<=b/\b<w.heap.size)/\(a=0->d.size=0):=by
 rcases h.2 with⟨rfl,e⟩|⟨g,a,j,rfl,i,n,c,f,l,m⟩
 ·exact⟨none,0,by rw[e],by omega,qH _,fun h=>absurd h (by omega),fun _=>e⟩
 ·exact⟨_,a,rfl,c,f,fun _=>⟨g,rfl,i,(h.lt g rfl).2⟩,fun k=>by omega⟩
theorem Lr{A:Option Addr}{a:Nat}(h:uT w base (.slice A d.size a) d){m:Nat}(q:m<=d.size):uT w base (.slice A m a) (d.extract 0 m):=by
 have l:(d.extract 0 m).size=m:=by rw[qS];omega
 unfold uT;rw[l,Lm];refine⟨by rw[qq,h.1];omega, ?_⟩;rcases h.2 with⟨e,o⟩|⟨g,n,b,e,j,k,p,c,f,i⟩
 ·injection e with e e3 e4;exact qX ⟨by rw[e,e4,show m=0 by omega],by omega⟩
 ·simp only[Value.slice.injEq,true_and]at e;obtain⟨rfl,rfl⟩:=e;refine qY ⟨g,a,b,rfl,j,k,by omega,c,f, ?_⟩;rw[<-i,List.take_take];congr 1;omega
theorem Lt: (prog.info? 5).map (fun i=>(i.zero,i.size,i.bytes))=some (some (.int .u8 0),1,1):=by kernel_rfl
theorem La(h:uT w base v d)(s:Tw)(hs:d.size+s.size<=1099511627776)(Q:base<=w.heap.size)(q:TypeId):
  ∃r w',(Builtin.append_ #[154,9] q #[v,.string s]).run prog w = .ok r w'/\uT w' base r (d++s)/\w.grownBy w' v.ownBlock/\(r.ownBlock=v.ownBlock∨r.ownBlock=some w.heap.size):=by
 obtain⟨i,o,N,p,O⟩:=info_parts Lt;have c:Src prog i.size 9 (.string s) s.size (byteCells s) w:=by rw[p];exact Src.ofString w Tryz.underlying9 s
 have Y:(d++s).size=d.size+s.size:=qT;have V:(byteCells d).length=d.size:=byteCells_length d;have J:(byteCells s).length=s.size:=byteCells_length s;unfold uT;rw[Y,Ll];have m:(byteCells d++byteCells s).length=(d.size+s.size)*1:=by rw[qI,V,J];omega
 have grown:∀(b:Nat),b<d.size+s.size->∀(row:Option Nat),
   (w.drew.alloc (.cells ((byteCells d++byteCells s).toArray++Builtin.zeroCells (Value.int .u8 0).cells (grownCap w (d.size+s.size) b 5-(d.size+s.size))) 5)).ownsRow base 5 1
    (.slice (some ⟨w.heap.size,0,none⟩) (d.size+s.size) (grownCap w (d.size+s.size) b 5)) (d.size+s.size) (byteCells d++byteCells s) /\
   w.grownBy (w.drew.alloc (.cells ((byteCells d++byteCells s).toArray++Builtin.zeroCells (Value.int .u8 0).cells (grownCap w (d.size+s.size) b 5-(d.size+s.size))) 5)) row:=by
  intro b ho row;have U:=grownCap_ge w (d.size+s.size) b 5;have y:grownCap w (d.size+s.size) b 5<=maxLen:=grownCap_le_maxLen w _ b _ (by unfold maxLen;omega);refine⟨⟨m,.inr ⟨w.heap.size,_,_,rfl,Q,heap_alloc_new w.drew _,U,y, ?_, ?_⟩⟩,⟨rfl,rfl,rfl,by simp,fun k z _=>Below.heap_alloc w.drew _ k z⟩⟩
  ·rw[Array.size_append,List.size_toArray,size_zeroCells,m];show(d.size+s.size)*1+(_-_)*1=_;omega
  ·rw[Array.toList_append,<-m];exact List.take_left
 rcases h.2 with⟨rfl,e⟩|⟨g,a,l,rfl,R,I,Z,y,S,W⟩
 ·by_cases A:s.size=0
  ·have t:byteCells d=[]:=List.eq_nil_of_length_eq_zero (by omega);have B:byteCells s=[]:=List.eq_nil_of_length_eq_zero (by omega);refine⟨.slice none 0 0,w, ?_,by rw[t,B,e,A];exact World.ownsRow_nil w base _ 1,⟨rfl,rfl,rfl,qZ _,fun _ _ _=>rfl⟩,qX rfl⟩;have H:=c.len w;have C:=c.cells;rw[A,B]at C;rw[A]at H;simp[Builtin.append_,run_underlying Tryz.underlying154,run_underlying Tryz.underlying9,sizeOf,typeInfo,o,H,C]
  ·have n:=run_append_grow_src (P:=prog) w 154 9 q 5 i _ Tryz.underlying154 o N none 0 0 [] (by simp[Builtin.firstCells]) (.string s) s.size (byteCells s) c (by omega) (by omega) (growslice_fits (by omega) (by rw[O];omega));have t:byteCells d=[]:=List.eq_nil_of_length_eq_zero (by omega);have f:=grown 0 (by omega) (Value.ownBlock (.slice none 0 0));rw[t,e]at f ⊢;exact⟨_,_,n,f.1,f.2,qY rfl⟩
 ·by_cases M:d.size+s.size<=a
  ·have T:d.size*i.size+(byteCells s).length<=l.size:=(by rw[J,S,p];omega);have hst:=run_storeCells_at prog g (d.size*i.size) 5 (byteCells s) 0 l w I (by simpa using T) (Ln s);simp only[Nat.add_zero]at hst
   have n:(Builtin.append_ #[154,9] q #[.slice (some ⟨g,0,none⟩) d.size a,.string s]).run prog w = .ok (.slice (some ⟨g,0,none⟩) (d.size+s.size) a) (w.setRow g (l.toList.take (d.size*i.size)++byteCells s++l.toList.drop (d.size*i.size+(byteCells s).length)).toArray):=by
    simp[Builtin.append_,run_underlying Tryz.underlying154,run_underlying Tryz.underlying9,sizeOf,typeInfo,o,c.len,c.cells,M,Addr.add_lit,hst]
   refine⟨_,_,n,⟨m,.inr ⟨g,a,_,rfl,R,setRow_heap w g l _ _ _ I,M,y, ?_, ?_⟩⟩,⟨rfl,rfl,rfl,by simp,fun k _ z=>setRow_other w g k _ (fun e=>z (by simp[Value.ownBlock,e]))⟩,qX rfl⟩
   ·simp only[List.size_toArray,List.length_append,List.length_take,List.length_drop,Array.length_toList];omega
   ·rw[p,W,<-m];exact List.take_left
  ·have n:=run_append_grow_src (P:=prog) w 154 9 q 5 i _ Tryz.underlying154 o N (some ⟨g,0,none⟩) d.size a (byteCells d)
    (by rw[p];exact run_firstCells_some w.drew 1 d.size ⟨g,0,none⟩ d.size a (byteCells d) (by omega) (fun j u X=>h.cells rfl j u X)) (.string s) s.size (byteCells s) c (by omega) (by omega) (growslice_fits (by omega) (by rw[O];omega))
   have f:=grown a (by omega) (Value.ownBlock (.slice (some ⟨g,0,none⟩) d.size a));exact⟨_,_,n,f.1,f.2,qY rfl⟩
theorem Jw(w:World)(A:Option Addr)(c:Nat):(convert 154 9 (.slice A 0 c)).run prog w = .ok (.string ByteArray.empty) w:=by
 cases A with
 | none=>exact run_convert_bytes_nil w 154 5 Tryz.underlying154 Tryz.underlying5 0 c 9 Tryz.underlying9
 | some a=>exact run_convert_bytes_back w 154 9 5 a c [] Tryz.underlying154 Tryz.underlying5 Tryz.underlying9 (fun j b=>absurd b (Nat.not_lt_zero j))
theorem Le{b i n:Nat}(h:uT w base (.slice (some ⟨b,0,none⟩) n i) d){a k:Nat}(s:a+k<=d.size)(c:Nat):
  (convert 154 9 (.slice (some ⟨b,a,none⟩) k c)).run prog w = .ok (.string (d.extract a (a+k))) w:=by
 obtain rfl:n=d.size:=by
  rcases h.2 with⟨e,q⟩|⟨g,o,p,e,_⟩
  ·cases e
  ·simp only[Value.slice.injEq]at e;exact e.2.1
 have m:(d.extract a (a+k)).data.toList.length=k:=by
  rw[Array.length_toList];show(d.extract a (a+k)).size=k;rw[qS];omega
 have f:=run_convert_bytes_back (P:=prog) w 154 9 5 ⟨b,a,none⟩ c (d.extract a (a+k)).data.toList Tryz.underlying154 Tryz.underlying5 Tryz.underlying9
  (fun j r=>by
   have l:(⟨b,a,none⟩:Addr).add j=⟨b,a+j,none⟩:=(by unfold Addr.add;split<;>simp_all);have t:d.data.size=d.size:=rfl;rw[l,h.cellAt (a+j) (by omega),Lh,Array.getElem?_eq_getElem (by omega),Option.map_some];congr 3;rw[Array.getElem_toList];simp only[ByteArray.data_extract,Array.getElem_extract])
 rw[m]at f;exact f
end
structure Ent where
 f:zi
 b:Nat
 v:Value
def Ent.nb(x:Ent):Tw × Nat:=(x.f.name,x.b)
def Ent.blocks(x:Ent):List Nat:=x.b::x.v.ownBlock.toList
def kG(w:World)(base:Nat)(x:Ent):Prop:=za w x.b 215 #[x.v,.int .i64 (x.f.synced:Nat)]/\base<=x.b/\uT w base x.v x.f.data
def uq(x y:Ent):Prop:=x.b≠y.b/\∀b,x.v.ownBlock=some b->y.v.ownBlock≠some b
def bh(w:World)(base:Nat)(v:Value)(l:List Int)(K:List Nat):Prop :=
 (l=[]/\K=[]/\∃a c,v = .slice a 0 c)∨(w.ownsRow base 3 1 v l.length (nh l)/\K=v.ownBlock.toList)
def ux(w:World)(base:Nat)(vF:Value)(c:Nat)(keep:List Int)(K:List Nat):Prop :=
 (c=0/\vF = .pointer none/\K=[]) ∨
 ∃(b n:Nat) (f:Value) (a:List Nat),vF=ptr b/\c=n+1/\n<=9223372036854775807/\za w b 289 #[.int .i64 (n:Nat),f]/\base<=b/\bh w base f (keep.take 400) a/\K=b::a
def KQ(g mb:Nat)(vF:Value)(D:zr):Array Value:=#[ptr g,.int .i64 (D.cap:Nat),.map (some mb),.bool (!D.down),.int .i64 (D.count:Nat),.int .i64 (D.qn:Nat),vF]
structure PAt(w:World)(base g mb:Nat)(vF:Value)(E:List Ent)(K:List Nat)(D:zr):Prop where
 qi:za w g 83 (KQ g mb vF D)
 gb:base<=g
 xg:base<=mb
 xZ:D.l=E.map Ent.f
 map:ka w mb (E.map Ent.nb)
 xJ:∀x∈E,kG w base x
 apart:E.Pairwise uq
 qo:yq D.l
 names:∀f∈D.l,ky f.name=true
 fail:ux w base vF D.fails D.keep K
def jm(g mb:Nat)(E:List Ent)(K:List Nat):List Nat:=g::mb::(K++E.flatMap Ent.blocks)
def yz: jK:=fun w base g F D=>∃mb vF E K,PAt w base g mb vF E K D/\F=jm g mb E K
section
variable {w w':World}{base:Nat}{G:List Nat}
theorem kG.qa{x:Ent}(h:kG w base x)(c:ze G w w')(a:∀b∈x.blocks,b ∉ G):kG w' base x :=
 ⟨h.1.qa c (a _ (by simp[Ent.blocks])),h.2.1,gz h.2.2 c (fun b f=>a b (by simp[Ent.blocks,f]))⟩
theorem kG.low{x:Ent}(h:kG w base x):∀b∈x.blocks,base<=b/\b<w.heap.size:=by
 intro b a;simp only[Ent.blocks,List.mem_cons,Option.mem_toList]at a;rcases a with rfl|a
 ·exact⟨h.2.1,h.1.lt⟩
 ·exact h.2.2.lt b a
theorem bh.qa{v:Value}{l:List Int}{K:List Nat}(h:bh w base v l K)(f:ze G w w')(c:∀b∈K,b ∉ G):bh w' base v l K:=by
 rcases h with h|⟨h,rfl⟩
 ·exact qX h
 ·exact qY ⟨gz h f (fun b a=>c b (by simp[a])),rfl⟩
theorem bh.low{v:Value}{l:List Int}{K:List Nat}(h:bh w base v l K):∀b∈K,base<=b/\b<w.heap.size:=by
 rcases h with⟨_,rfl,_⟩|⟨h,rfl⟩
 ·intro b a;cases a
 ·intro b a;exact h.lt b (by simpa using a)
theorem ux.qa{v:Value}{n:Nat}{l:List Int}{K:List Nat}(h:ux w base v n l K)(c:ze G w w')(a:∀b∈K,b ∉ G):ux w' base v n l K:=by
 rcases h with h|⟨b,m,s,f,i,j,k,o,p,q,rfl⟩
 ·exact qX h
 ·exact qY ⟨b,m,s,f,i,j,k,o.qa c (a _ (by simp)),p,q.qa c (fun x r=>a x (by simp[r])),rfl⟩
theorem ux.low{v:Value}{n:Nat}{l:List Int}{K:List Nat}(h:ux w base v n l K):∀b∈K,base<=b/\b<w.heap.size:=by
 rcases h with⟨_,_,rfl⟩|⟨b,m,r,k,o,p,q,c,f,i,rfl⟩
 ·intro b j;cases j
 ·intro x a;rcases qL.1 a with rfl|a
  ·exact⟨f,c.lt⟩
  ·exact i.low x a
variable {g mb:Nat}{vF:Value}{E:List Ent}{K:List Nat}{D:zr}
theorem km{b:Nat}:b∈jm g mb E K↔b=g∨b=mb∨b∈K∨∃x∈E,b∈x.blocks:=by
 simp only[jm,List.mem_cons,List.mem_append,List.mem_flatMap]
theorem PAt.qa(h:PAt w base g mb vF E K D)(c:ze G w w')(a:∀b∈jm g mb E K,b ∉ G):PAt w' base g mb vF E K D :=
 ⟨h.qi.qa c (a _ (km.2 (qX rfl))),h.gb,h.xg,h.xZ,h.map.qa c (a _ (km.2 (qY (qX rfl)))),
  fun x i=>(h.xJ x i).qa c (fun b f=>a b (km.2 (qY (qY (qY ⟨x,i,f⟩))))),h.apart,h.qo,h.names,h.fail.qa c (fun b f=>a b (km.2 (qY (qY (qX f)))))⟩
theorem PAt.low(h:PAt w base g mb vF E K D):∀b∈jm g mb E K,base<=b/\b<w.heap.size:=by
 intro b a;rcases km.1 a with rfl|rfl|a|⟨x,c,a⟩
 ·exact⟨h.gb,h.qi.lt⟩
 ·exact⟨h.xg,h.map.lt⟩
 ·exact h.fail.low b a
 ·exact(h.xJ x c).low b a
theorem PAt.at(h:PAt w base g mb vF E K D):yz w base g (jm g mb E K) D:=⟨mb,vF,E,K,h,rfl⟩
theorem bh.ne{v:Value}{l:List Int}{b:Nat}{t:TypeId}{cs:Array Value}(h:bh w base v l K)(a:za w b t cs)(f:3≠t):b ∉ K:=by
 rcases h with⟨_,rfl,_⟩|⟨h,rfl⟩
 ·simp
 ·intro c;exact kv h a f (by simpa using c)
theorem ux.ne{v:Value}{n:Nat}{l:List Int}{b:Nat}{t:TypeId}{cs:Array Value}(h:ux w base v n l K)(c:za w b t cs)(j:3≠t)(k:289≠t):b ∉ K:=by
 rcases h with⟨_,_,rfl⟩|⟨p,m,y,o,q,r,s,f,u,i,rfl⟩
 ·simp
 ·intro a;rcases qL.1 a with rfl|a
  ·exact f.xS c k rfl
  ·exact i.ne c j a
theorem ux.xN{v:Value}{n:Nat}{l:List Int}{L:List (Tw × Nat)}(h:ux w base v n l K)(c:ka w mb L):mb ∉ K:=by
 rcases h with⟨_,_,rfl⟩|⟨j,m,r,i,k,o,p,f,q,b,rfl⟩
 ·simp
 ·intro a;rcases qL.1 a with rfl|a
  ·exact c.ne f rfl
  ·rcases b with⟨_,rfl,_⟩|⟨b,rfl⟩
   ·cases a
   ·exact c.own_ne b (by simpa using a)
theorem ux.zI{v:Value}{n:Nat}{l:List Int}{base' size m:Nat}{t:TypeId}{u:Value}{xs:List Value}(h:ux w base v n l K)(i:w.ownsRow base' t size u m xs)(k:t≠3)(o:t≠289):∀b,u.ownBlock=some b->b ∉ K:=by
 intro b f a;rcases h with⟨_,_,rfl⟩|⟨q,m,A,p,r,s,y,j,z,c,rfl⟩
 ·cases a
 ·rcases qL.1 a with rfl|a
  ·exact kv i j o f
  ·rcases c with⟨_,rfl,_⟩|⟨c,rfl⟩
   ·cases a
   ·exact cG i c k b (by simpa using a) f
theorem kG.ne{x:Ent}{b:Nat}{t:TypeId}{cs:Array Value}(h:kG w base x)(c:za w b t cs)(f:215≠t)(i:5≠t):b ∉ x.blocks:=by
 intro a;simp only[Ent.blocks,List.mem_cons,Option.mem_toList]at a;rcases a with rfl|a
 ·exact h.1.xS c f rfl
 ·exact kv h.2.2 c i a
theorem kG.xN{x:Ent}{L:List (Tw × Nat)}(h:kG w base x)(b:ka w mb L):mb ∉ x.blocks:=by
 intro a;simp only[Ent.blocks,List.mem_cons,Option.mem_toList]at a;rcases a with rfl|a
 ·exact b.ne h.1 rfl
 ·exact b.own_ne h.2.2 a
theorem kG.apart{x y:Ent}(f:kG w base x)(i:kG w base y)(h:uq x y):∀b∈x.blocks,b ∉ y.blocks:=by
 intro b c a;simp only[Ent.blocks,List.mem_cons,Option.mem_toList]at c a;rcases c with rfl|c<;>rcases a with a|a
 ·exact h.1 a
 ·exact kv i.2.2 f.1 (by decide) a
 ·subst a;exact kv f.2.2 i.1 (by decide) c
 ·exact h.2 b c a
theorem kG.xn{x:Ent}{v:Value}{n:Nat}{l:List Int}(c:kG w base x)(h:ux w base v n l K):∀b∈x.blocks,b ∉ K:=by
 intro b a;simp only[Ent.blocks,List.mem_cons,Option.mem_toList]at a;rcases a with rfl|a
 ·exact h.ne c.1 (by decide) (by decide)
 ·exact h.zI c.2.2 (by decide) (by decide) b a
theorem PAt.x8(h:PAt w base g mb vF E K D){D':zr}{j:Value}{k:List Nat}(c:D'.l=D.l)(a:za w' g 83 (KQ g mb j D'))(n:ze G w w')(m:∀b∈G,b=g∨b∈K)(o:ux w' base j D'.fails D'.keep k):PAt w' base g mb j E k D':=by
 refine⟨a,h.gb,h.xg,by rw[c];exact h.xZ,h.map.qa n (fun f=>?_),fun x i=>(h.xJ x i).qa n (fun b a f=>?_),h.apart,by rw[c];exact h.qo,by rw[c];exact h.names,o⟩
 ·rcases m _ f with e|e
  ·exact h.map.ne h.qi e
  ·exact h.fail.xN h.map e
 ·rcases m _ f with e|e
  ·exact(h.xJ x i).ne h.qi (by decide) (by decide) (by rw[<-e];exact a)
  ·exact(h.xJ x i).xn h.fail b a e
theorem PAt.zZ(h:PAt w base g mb vF E K D)(f:ze [g] w w'):ux w' base vF D.fails D.keep K :=
 h.fail.qa f (fun b a c=>by
  obtain rfl:b=g:=by simpa using c
  exact h.fail.ne h.qi (by decide) (by decide) a)
theorem PAt.xa(h:PAt w base g mb vF E K D)(c:Bool):PAt (w.setCell ⟨g,3,none⟩ (.bool (!c))) base g mb vF E K { D with down:=c } :=
 h.x8 (G:=[g]) rfl (h.qi.put 3 _) ((ze.refl _ w).setCell (qX (by simp)) _) (fun b a=>qX (by simpa using a)) (h.zZ ((ze.refl _ w).setCell (qX (by simp)) _))
theorem PAt.zH(h:PAt w base g mb vF E K D)(c:Nat):PAt (w.setCell ⟨g,4,none⟩ (.int .i64 (c:Nat))) base g mb vF E K { D with count:=c } :=
 h.x8 (G:=[g]) rfl (h.qi.put 4 _) ((ze.refl _ w).setCell (qX (by simp)) _) (fun b a=>qX (by simpa using a)) (h.zZ ((ze.refl _ w).setCell (qX (by simp)) _))
theorem PAt.zG(h:PAt w base g mb vF E K D)(l:List Int):PAt (w.setCell ⟨g,6,none⟩ (.pointer none)) base g mb (.pointer none) E [] { D with fails:=0,keep:=l } :=
 h.x8 (G:=[g]) rfl (h.qi.put 6 _) ((ze.refl _ w).setCell (qX (by simp)) _) (fun b a=>qX (by simpa using a)) (qX ⟨rfl,rfl,rfl⟩)
theorem PAt.xe(h:PAt w base g mb vF E K D){k:Nat}{x:Ent}(r:E[k]? = some x)(x':Ent)(q:x'.b=x.b)(Q:x'.f.name=x.f.name)(H:ze G w w')(A:∀b∈G,b∈x.blocks)(T:kG w' base x')
  (hv:∀b,x'.v.ownBlock=some b->x.v.ownBlock=some b∨w.heap.size<=b):PAt w' base g mb vF (E.set k x') K { D with l:=D.l.set k x'.f }:=by
 have hx:=qO r;have s:=(qM.1 r).1;have B:=h.xJ x hx
 have Z:(E.set k x').map Ent.nb=E.map Ent.nb:=by
  rw[List.map_set];apply List.ext_getElem?;intro j;rw[List.getElem?_set];by_cases e:k=j
  ·subst e;rw[qK rfl,qK (by simpa using s),qz,r];show some (x'.f.name,x'.b)=some (x.f.name,x.b);rw[q,Q]
  ·rw[qJ e]
 have O:∀(j:Nat) (y:Ent),j≠k->E[j]? = some y->(∀b∈x.blocks,b ∉ y.blocks)/\uq x' y/\uq y x':=by
  intro j y m t;have P:=h.xJ y (qO t);have N:=(qM.1 t).1;have C:=List.pairwise_iff_getElem.1 h.apart;have u:E[k]=x:=by rw[qD s]at r;simpa using r
  have z:E[j]=y:=by rw[qD N]at t;simpa using t
  have I:uq x y:=by
   rcases Nat.lt_or_ge k j with c|c
   ·have:=C k j s N c;rw[u,z]at this;exact this
   ·have:=C j k N s (by omega);rw[u,z]at this;exact⟨fun e=>this.1 e.symm,fun b n p=>this.2 b p n⟩
  have J:uq x' y:=⟨by rw[q];exact I.1,fun b n p=>by
   rcases hv b n with c|c
   ·exact I.2 b c p
   ·have:=(P.2.2.lt b p).2;omega⟩
  exact⟨B.apart P I,J,⟨fun e=>J.1 e.symm,fun b n p=>J.2 b p n⟩⟩
 have W:g ∉ x.blocks:=B.ne h.qi (by decide) (by decide)
 have Y:∀(j:Nat),((D.l.set k x'.f)[j]?).map zi.name=(D.l[j]?).map zi.name:=by
  intro j;rw[List.getElem?_set];by_cases e:k=j
  ·subst e;rw[qK rfl,qK (by rw[h.xZ];simpa using s),h.xZ,qz,r];simp[Q]
  ·rw[qJ e]
 have R:(D.l.set k x'.f).map zi.name=D.l.map zi.name:=by
  apply List.ext_getElem?;intro j;rw[qz,qz];exact Y j
 refine⟨h.qi.qa H (fun o=>W (A _ o)),h.gb,h.xg,by show D.l.set k x'.f=_;rw[h.xZ,List.map_set], ?_,fun y t=>?_, ?_, ?_, ?_,h.fail.qa H (fun b q o=>B.xn h.fail b (A b o) q)⟩
 ·rw[Z];exact h.map.qa H (fun o=>B.xN h.map (A _ o))
 ·obtain⟨j,m⟩:=List.getElem?_of_mem t;rw[List.getElem?_set]at m;by_cases e:k=j
  ·rw[qK e,qK s]at m;obtain rfl:x'=y:=(by simpa using m);exact T
  ·rw[qJ e]at m;exact(h.xJ y (qO m)).qa H (fun b q o=>(O j y (fun c=>e c.symm) m).1 b (A b o) q)
 ·rw[List.pairwise_iff_getElem];intro i j M m X;rw[List.length_set]at M m;rw[List.getElem_set,List.getElem_set];have C:=List.pairwise_iff_getElem.1 h.apart i j M m X;by_cases u:k=i
  ·rw[qK u,qJ (by omega)];exact(O j _ (by omega) (qD m)).2.1
  ·rw[qJ u];by_cases z:k=j
   ·rw[qK z];exact(O i _ (by omega) (qD M)).2.2
   ·rw[qJ z];exact C
 ·show yq (D.l.set k x'.f);have:(D.l.map zi.name).Pairwise (fun a b=>kB a b=true):=List.pairwise_map.2 h.qo;rw[<-R]at this;exact List.pairwise_map.1 this
 ·intro f U;have n:f.name∈(D.l.set k x'.f).map zi.name:=qN.2 ⟨f,U,rfl⟩;rw[R]at n;obtain⟨S,V,e⟩:=qN.1 n;rw[<-e];exact h.names S V
theorem PAt.x9(h:PAt w base g mb vF E K D)(E':List Ent)(l:List zi)(o:l=E'.map Ent.f)(a:ka w' mb (E'.map Ent.nb))(i:ze [mb] w w')(j:∀x∈E',kG w base x)(m:E'.Pairwise uq)(q:yq l)(p:∀f∈l,ky f.name=true):PAt w' base g mb vF E' K { D with l:=l }:=by
 refine⟨h.qi.qa i (fun n=>h.map.ne h.qi (by have:=qE.1 n;exact this.symm)),h.gb,h.xg,o,a,fun x k=>(j x k).qa i (fun b c a=>?_),m,q,p,h.fail.qa i (fun b c a=>?_)⟩
 ·obtain rfl:b=mb:=by simpa using a
  exact(j x k).xN h.map c
 ·obtain rfl:b=mb:=by simpa using a
  exact h.fail.xN h.map c
end
def yF(chs:List (List Tw)):List Tw:=chs.getLast?.getD []
def jn(chs:List (List Tw)):Nat:=if chs.length=0 then 0 else 4096*(chs.length-1)+(12+jk (yF chs))
def zo(i:Nat):List (List Tw)->List (Nat × Tw)
 | []=>[]
 | ps::r=>vS (4096*i+12) ps++zo (i+1) r
theorem lC: ∀(a b:List (List Tw)) (i:Nat),zo i (a++b)=zo i a++zo (i+a.length) b
 | [],b,i=>rfl
 | x::a,b,i=>by
   show vS _ x++zo (i+1) (a++b)=vS _ x++zo (i+1) a++_;rw[lC a b (i+1),qd,qk,show i+1+a.length=i+(a.length+1) by omega]
theorem nJ(i:Nat)(a:List Tw):zo i [a]=vS (4096*i+12) a:=by show vS _ a++[]=_;rw[List.append_nil]
theorem tN{i j:Nat}(hi:i<=999999)(a:j<=999999)(h:nmC i=nmC j):i=j:=by
 have:=Ub 99 hi a;rw[show nmS 99 (i:Nat)=nmS 99 (j:Nat) from h]at this;simp at this;omega
theorem KX{i:Nat}(h:i<=999999):nmC i≠jH:=fun e=>by
 have a:=rO (c:=99) h;rw[show nmS 99 (i:Nat)=jH from e]at a;exact absurd a (by decide)
theorem fE{i:Nat}(h:i<=999999):isC (nmC i)=true/\npN (nmC i)=i:=by
 obtain⟨a,b,c⟩:=rN (c:=99) (by decide) h;exact⟨by unfold isC;rw[a,b];rfl,c⟩
theorem Li{i:Nat}(h:i<=999999):ky (nmC i)=true:=by
 unfold ky;rw[rO h];decide
structure js(D:zr)(chs:List (List Tw)):Prop where
 up:D.down=false
 fails:D.fails=0
 many:chs.length<=200
 files:∀i ps,chs[i]? = some ps->∃f,jU D.l (nmC i)=some f/\f.data=uP i ps
 small:∀ps∈chs,12+jk ps<=4096/\∀p∈ps,p.size<=2000
 only:∀f∈D.l,isC f.name=true->∃i,i<chs.length/\f.name=nmC i
 xq:jU D.l jH=none
structure vi(D:zr)(L:jV)(chs:List (List Tw)):Prop where
 qn:D.qn=L.qn
 xV:L.chunks=chs.length
 endp:L.endp=jn chs
 sure:L.sure<=L.endp
structure kD(D E:zr):Prop where
 names:E.l.map zi.name=D.l.map zi.name
 data:∀m,(jU E.l m).map zi.data=(jU D.l m).map zi.data
 used:jX E.l=jX D.l
 cap:E.cap=D.cap
 qn:E.qn=D.qn
 down:E.down=D.down
 fails:E.fails=D.fails
theorem kD.refl(D:zr):kD D D:=⟨rfl,fun _=>rfl,rfl,rfl,rfl,rfl,rfl⟩
theorem kD.trans{A B C:zr}(h:kD A B)(k:kD B C):kD A C:=⟨k.names.trans h.names,fun m=>(k.data m).trans (h.data m),k.used.trans h.used,k.cap.trans h.cap,k.qn.trans h.qn,k.down.trans h.down,k.fails.trans h.fails⟩
theorem kD.count(D:zr)(c:Nat):kD D { D with count:=c }:=⟨rfl,fun _=>rfl,rfl,rfl,rfl,rfl,rfl⟩
theorem kD.length{D E:zr}(h:kD D E):E.l.length=D.l.length:=by have:=congrArg List.length h.names;simpa using this
theorem kD.none{D E:zr}(h:kD D E)(m:Tw):jU E.l m=none↔jU D.l m=none:=by
 have:=h.data m;cases a:jU E.l m<;>cases b:jU D.l m<;>simp_all
theorem kD.synced(D:zr)(n:Tw):kD D { D with l:=ja D.l (jW D.l n) (fun f=>{ f with synced:=f.data.size }) }:=by
 refine⟨o8 (fun f=>{ f with synced:=f.data.size }) (fun _=>rfl) _ _,fun m=>?_,DL (fun f=>{ f with synced:=f.data.size }) (fun _=>rfl),rfl,rfl,rfl,rfl⟩;show(jU (ja D.l (jW D.l n) _) m).map _=_;rw[o7 (fun f=>{ f with synced:=f.data.size }) (fun _=>rfl)];split
 ·rename_i e;rw[e];cases jU D.l n<;>rfl
 ·rfl
theorem pK{l:List zi}{f:zi}(h:f∈l):f.name∈l.map zi.name:=qN.2 ⟨f,h,rfl⟩
theorem js.same{D E:zr}{chs:List (List Tw)}(g:js D chs)(h:kD D E):js E chs:=by
 refine⟨h.down.trans g.up,h.fails.trans g.fails,g.many,fun i p o=>?_,g.small,fun f m c=>?_,(h.none _).2 g.xq⟩
 ·obtain⟨f,j,k⟩:=g.files i p o;have:=h.data (nmC i);rw[j]at this;cases b:jU E.l (nmC i) with
  | none=>rw[b]at this;cases this
  | some a =>
    rw[b]at this;exact⟨a,rfl,by have e:a.data=f.data:=(by simpa using this);rw[e,k]⟩
 ·have:=pK m;rw[h.names]at this;obtain⟨a,n,e⟩:=qN.1 this;rw[<-e]at c ⊢;exact g.only a n c
section
variable {D:zr}{L:jV}{chs:List (List Tw)}
theorem lD(g:js D chs)(a:vi D L chs):vU D L=0:=by
 unfold vU;rw[qJ (by simp[g.up]),qK a.qn]
theorem nK(g:js D chs)(h:0<chs.length):∃f,jU D.l (nmC (chs.length-1))=some f/\f.data=uP (chs.length-1) (yF chs)/\f.data.size=12+jk (yF chs)/\12+jk (yF chs)<=4096:=by
 have b:chs[chs.length-1]? = some (yF chs):=by
  unfold yF;rw[List.getLast?_eq_getElem?];rw[qD (by omega)];rfl
 obtain⟨f,c,a⟩:=g.files _ _ b;have i:=g.many;exact⟨f,c,a,by rw[a,oh (by omega)],(g.small _ (qO b)).1⟩
theorem Lo(g:js D chs)(b:vi D L chs):∃E,kT D L=(0,E, { L with sure:=L.endp })/\kD D E/\E.count=D.count:=by
 unfold kT;rw[b.xV];by_cases a:chs.length=0
 ·rw[qK a];exact⟨D,rfl,kD.refl D,rfl⟩
 ·rw[qJ a];obtain⟨f,c,_⟩:=nK g (by omega);rw[Zv g.up g.fails c,qK rfl];exact⟨_,rfl,kD.synced D _,rfl⟩
theorem cR(a:List (List Tw))(x:List Tw):yF (a++[x])=x:=by unfold yF;simp
theorem pV(a:List (List Tw))(x:List Tw):jn (a++[x])=4096*a.length+(12+jk x):=by
 unfold jn;rw[qI,cR,qJ (by simp)];simp
theorem tO(h:0<chs.length):∃a x,chs=a++[x]:=by
 have b:chs≠[]:=by intro e;rw[e]at h;simp at h
 exact⟨chs.dropLast,chs.getLast b,(List.dropLast_concat_getLast b).symm⟩
def uB(chs:List (List Tw))(p:Tw):Bool:=decide (0<chs.length/\12+jk (yF chs)+(p.size+12)<=4096)
def plQ(chs:List (List Tw))(p:Tw):Nat:=if uB chs p=true then 4096*(chs.length-1)+(12+jk (yF chs)) else 4096*chs.length+12
def plC(chs:List (List Tw))(p:Tw):List (List Tw):=if uB chs p=true then chs.dropLast++[yF chs++[p]] else chs++[[p]]
structure dM(D:zr)(L:jV)(chs:List (List Tw))(p:Tw)(q:Nat)(E:zr)(M:jV)(chs':List (List Tw)):Prop where
 xQ:js E chs'
 log:vi E M chs'
 all:zo 0 chs'=zo 0 chs++[(q,p)]
 endp:M.endp=q+(p.size+12)
 behind:L.endp<=q
 sure:M.sure<=q
 cap:E.cap=D.cap
 count:E.count=D.count
 length:E.l.length+chs.length=D.l.length+chs'.length
 used:jX E.l<=jX D.l+(p.size+24)
 room:jX E.l+6000<=D.cap
 zS:chs'.length<=chs.length+1
 place:q=plQ chs p
 chunks:chs'=plC chs p
 sureEq:M.sure=if uB chs p=true then L.sure else L.endp
 others:∀k,isC k=false->(jU E.l k).map zi.data=(jU D.l k).map zi.data
 names:∀k∈E.l.map zi.name,k∈D.l.map zi.name∨∃i,i<chs'.length/\k=nmC i
theorem KZ{a:List (List Tw)}{x:List Tw}(g:js D (a++[x])):∃f,jU D.l (nmC a.length)=some f/\f.data=uP a.length x/\f.data.size=12+jk x/\12+jk x<=4096/\a.length<=199:=by
 obtain⟨f,c,b,i,j⟩:=nK g (by simp);rw[cR]at b i j;rw[qI,List.length_singleton,Nat.add_sub_cancel]at c b;have:=g.many;rw[qI,List.length_singleton]at this;exact⟨f,c,b,i,j,by omega⟩
theorem KJ{a:List (List Tw)}{x:List Tw}(g:js D (a++[x]))(c:vi D L (a++[x]))(p:Tw)(Y:p.size<=2000)(t:12+jk x+(p.size+12)<=4096)(hr:jX D.l+(p.size+12)+6000<=D.cap):
  ∃q E M Q,yV D L p=(q,0,E,M)/\dM D L (a++[x]) p q E M Q:=by
 obtain⟨f,r,R,S,h4,h5⟩:=KZ g;have hm:=g.many;have O:=fV g.up r;rw[S]at O;have I:L.chunks=a.length+1:=by rw[c.xV];simp
 have X:ftS ((12+jk x:Nat):Int) p=true:=by unfold ftS;exact qW (by omega)
 have V:vn D L p=(a.length,12+jk x,0):=by
  unfold vn;rw[I,qJ (by omega),Nat.add_sub_cancel,O,qK rfl,qK X]
 have aa:y8 D (jZ p)=true:=by unfold y8;rw[yT];exact qW (by omega)
 have W:=Zy (s:=jZ p) g.up g.fails r (by rw[yT];omega)
 have U:onD (fun E=>yK E L (jZ p)) D L=(0,yB D (nmC a.length) (jZ p),L):=by
  show((yK D L (jZ p)).1,(yK D L (jZ p)).2,L)=_;unfold yK;rw[qJ (by rw[aa];decide),I,Nat.add_sub_cancel,W]
 have T:yV D L p=(4096*a.length+(12+jk x),0,yB D (nmC a.length) (jZ p), { L with chunks:=a.length+1,endp:=4096*a.length+(12+jk x)+(jZ p).size }):=by
  unfold yV;rw[qJ (by simp[lD g c]),qJ (by omega),V];dsimp only;rw[qJ (by simp),qJ (show ¬a.length=L.chunks by omega),U];rfl
 have u:∀m,jU (yB D (nmC a.length) (jZ p)).l m=if m=nmC a.length then some { f with data:=f.data++jZ p } else jU D.l m:=by
  intro m;show jU (ja D.l (jW D.l (nmC a.length)) (fun f=>{ f with data:=f.data++jZ p })) m=_;rw[o7 (fun f=>{ f with data:=f.data++jZ p }) (fun _=>rfl),r];rfl
 have B:(yB D (nmC a.length) (jZ p)).l.map zi.name=D.l.map zi.name:=o8 (fun f=>{ f with data:=f.data++jZ p }) (fun _=>rfl) _ _
 have ae:jX (yB D (nmC a.length) (jZ p)).l=jX D.l+(p.size+12):=by
  have b:=dC D.l (nmC a.length);rw[r]at b;have:=mU D.l _ f (fun f=>{ f with data:=f.data++jZ p }) b;rw[show(({ f with data:=f.data++jZ p }:zi)).data.size=f.data.size+(p.size+12) by show(f.data++jZ p).size=_;rw[qT,yT]]at this;show jX (ja D.l _ _)=_;omega
 have ab:L.endp=4096*a.length+(12+jk x):=by rw[c.endp,pV]
 have ac:(yB D (nmC a.length) (jZ p)).l.length=D.l.length:=by
  have:=congrArg List.length B;simpa using this
 have ad:=c.sure;refine⟨_,_,_,a++[x++[p]],T, ?_⟩;have A:(a++[x++[p]]).length=a.length+1:=by simp
 have N:(a++[x]).length=a.length+1:=by simp
 refine⟨⟨g.up,g.fails,by omega,fun i o n=>?_,fun o Z=>?_,fun y C H=>?_, ?_⟩,⟨c.qn, ?_, ?_, ?_⟩, ?_, ?_, ?_, ?_,rfl,rfl,by omega,by omega,by omega,by omega, ?_, ?_, ?_, ?_, ?_⟩
 ·rw[u];by_cases e:i=a.length
  ·subst e;rw[qK rfl];rw[List.getElem?_append_right (qZ _),Nat.sub_self]at n;obtain rfl:x++[p]=o:=(by simpa using n);refine⟨_,rfl, ?_⟩;show f.data++jZ p=_;rw[R];exact(JV _ _ _).symm
  ·have J:i<a.length:=by
    have:=(qM.1 n).1;rw[A]at this;omega
   rw[qJ (fun q=>e (tN (by omega) (by omega) q))];rw[List.getElem?_append_left J]at n;exact g.files i o (by rw[List.getElem?_append_left J];exact n)
 ·rcases qC.1 Z with h|h
  ·exact g.small o (qA _ h)
  ·obtain rfl:o=x++[p]:=(by simpa using h);have hs:=g.small x (qV _ (qE.2 rfl));refine⟨by rw[oc];omega,fun y C=>?_⟩;rcases qC.1 C with h|h
   ·exact hs.2 y h
   ·obtain rfl:y=p:=(by simpa using h);exact Y
 ·have P:=pK C;rw[B]at P;obtain⟨z,hz,e⟩:=qN.1 P;rw[<-e]at H ⊢;rw[A,<-N];exact g.only z hz H
 ·rw[u,qJ (fun q=>KX (by omega) q.symm)];exact g.xq
 ·rw[A]
 ·rw[pV,oc,yT];show 4096*a.length+(12+jk x)+(p.size+12)=_;omega
 ·show L.sure<=4096*a.length+(12+jk x)+(jZ p).size;omega
 ·rw[lC,lC,nJ,nJ,tX,<-qd,Nat.zero_add];rw[show 4096*a.length+12+jk x=4096*a.length+(12+jk x) by omega]
 ·show 4096*a.length+(12+jk x)+(jZ p).size=_;rw[yT]
 ·omega
 ·show L.sure<=_;omega
 ·have j:uB (a++[x]) p=true:=by unfold uB;rw[cR];exact qW ⟨by omega,t⟩
  unfold plQ;rw[qK j,cR,N,Nat.add_sub_cancel]
 ·have j:uB (a++[x]) p=true:=by unfold uB;rw[cR];exact qW ⟨by omega,t⟩
  unfold plC;rw[qK j,cR,List.dropLast_concat]
 ·have j:uB (a++[x]) p=true:=by unfold uB;rw[cR];exact qW ⟨by omega,t⟩
  rw[qK j]
 ·intro k b;rw[u,qJ (fun e=>by rw[e,(fE (i:=a.length) (by omega)).1]at b;cases b)]
 ·intro k b;rw[B]at b;exact qX b
end
theorem KK(D:zr)(L:jV)(f:zr->jV->Nat × zr × jV):vf (0,D,L) f=f D L:=rfl
theorem KV{f:zr->Nat × zr}{D E:zr}{L:jV}{k:zr->jV->Nat × zr × jV}(h:f D=(0,E)):vf (onD f D L) k=k E L:=by simp[vf,onD,h]
section
variable {D:zr}{L:jV}{chs:List (List Tw)}
theorem Lw(g:js D chs)(h:chs.length<=199):jU D.l (nmC chs.length)=none:=by
 rw[mn];intro f b e;obtain⟨i,c,a⟩:=g.only f b (by rw[e];exact(fE (by omega)).1);rw[e]at a;have:=tN (by omega) (by omega) a;omega
theorem MQ{n:Nat}{p:Tw}(a:p.size<=2000)(h:¬(n+(p.size+12)<=4096)):ftS (n:Nat) p=false:=by unfold ftS;exact qG (by omega)
theorem KY(g:js D chs)(b:vi D L chs)(p:Tw)(k:p.size<=2000)(j:0<chs.length->¬12+jk (yF chs)+(p.size+12)<=4096):vn D L p=(chs.length,12,0):=by
 unfold vn;rw[b.xV];by_cases a:chs.length=0
 ·rw[qK a,a]
 ·rw[qJ a];obtain⟨f,c,m,i,n⟩:=nK g (by omega);have l:=fV g.up c;rw[l,qK rfl,i]
  rw[qJ (by
   rw[MQ k (by have:=j (by omega);omega)];decide)]
theorem MX(g:js D chs)(a:vi D L chs)(p:Tw)(f:p.size<=2000)(c:0<chs.length->¬12+jk (yF chs)+(p.size+12)<=4096)(i:200<=chs.length∨y8 D (hdS (chs.length:Nat)++jZ p)=false):yV D L p=(0,60,D,L):=by
 unfold yV;rw[qJ (by simp[lD g a]),qJ (by omega),KY g a p f c];dsimp only;rw[qJ (by simp),qK a.xV.symm]
 have b:uf D L (jZ p)=(60,D,L):=by
  unfold uf;rw[a.xV,qK i]
 rw[b];rfl
theorem MZ{a:List (List Tw)}{x:List Tw}(g:js D (a++[x]))(b:vi D L (a++[x]))(p:Tw)(u:p.size<=2000)(t:12+jk x+(p.size+12)<=4096)(o:y8 D (jZ p)=false):yV D L p=(0,60,D,L):=by
 obtain⟨f,i,q,j,r,s⟩:=KZ g;have c:=fV g.up i;rw[j]at c;have m:L.chunks=a.length+1:=by rw[b.xV];simp
 have n:ftS ((12+jk x:Nat):Int) p=true:=by unfold ftS;exact qW (by omega)
 have l:vn D L p=(a.length,12+jk x,0):=by
  unfold vn;rw[m,qJ (by omega),Nat.add_sub_cancel,c,qK rfl,qK n]
 have k:onD (fun E=>yK E L (jZ p)) D L=(60,D,L):=by
  show((yK D L (jZ p)).1,(yK D L (jZ p)).2,L)=_;unfold yK;rw[qK o]
 unfold yV;rw[qJ (by simp[lD g b]),qJ (by omega),l];dsimp only;rw[qJ (by simp),qJ (show ¬a.length=L.chunks by omega),k];rfl
theorem KU(g:js D chs)(r:vi D L chs)(p:Tw)(W:p.size<=2000)(J:0<chs.length->¬12+jk (yF chs)+(p.size+12)<=4096)(hm:D.l.length<400)(S:chs.length<=199)(hr:jX D.l+(p.size+24)+6000<=D.cap):
  ∃q E M Y,yV D L p=(q,0,E,M)/\dM D L chs p q E M Y:=by
 obtain⟨a,af,o,ag⟩:=Lo g r;have j:=g.same o;have c:(hdS (chs.length:Nat)++jZ p).size=p.size+24:=by rw[qT,cL S,yT];omega
 have ae:y8 D (hdS (chs.length:Nat)++jZ p)=true:=by unfold y8;rw[c];exact qW (by omega)
 have V:=Lw j S;have aa:=DM j.up j.fails (Li (i:=chs.length) (by omega)) V (by rw[o.length];exact hm);have N:=fun m=>DI (l:=a.l) (f:=⟨nmC chs.length,ByteArray.empty,0⟩) V m
 have T:=Zy (D:={ a with l:=kH a.l ⟨nmC chs.length,ByteArray.empty,0⟩ }) (n:=nmC chs.length) (s:=hdS (chs.length:Nat)++jZ p) (f:=⟨nmC chs.length,ByteArray.empty,0⟩) j.up j.fails (by
   show jU (kH a.l _) _=_;rw[N,qK rfl]) (by
   show jX (kH a.l _)+_<=a.cap;rw[oT,c,o.used,o.cap];show jX D.l+0+_<=_;omega)
 obtain⟨b,B⟩:∃b,b=yB { a with l:=kH a.l ⟨nmC chs.length,ByteArray.empty,0⟩ } (nmC chs.length) (hdS (chs.length:Nat)++jZ p):=⟨_,rfl⟩
 rw[<-B]at T
 have hB:uf D L (jZ p)=(0,b, { L with sure:=L.endp }):=by
  unfold uf;rw[r.xV,qJ (by rw[ae];simp;omega),af,KK,KV aa];show((jF _ _ _).1,(jF _ _ _).2,_)=_;rw[T,r.xV]
 have hA:yV D L p=(4096*chs.length+12,0,b, { L with sure:=L.endp,chunks:=chs.length+1,endp:=4096*chs.length+12+(jZ p).size }):=by
  unfold yV;rw[qJ (by simp[lD g r]),qJ (by omega),KY g r p W J];dsimp only;rw[qJ (by simp),qK r.xV.symm,hB];rfl
 have O:∀m,jU b.l m=if m=nmC chs.length then some ⟨nmC chs.length,hdS (chs.length:Nat)++jZ p,0⟩ else jU a.l m:=by
  intro m;rw[B];show jU (ja (kH a.l ⟨nmC chs.length,ByteArray.empty,0⟩) (jW (kH a.l ⟨nmC chs.length,ByteArray.empty,0⟩) (nmC chs.length)) (fun f=>{ f with data:=f.data++(hdS (chs.length:Nat)++jZ p) })) m=_;rw[o7 (fun f=>{ f with data:=f.data++(hdS (chs.length:Nat)++jZ p) }) (fun _=>rfl),N,qK rfl,N];by_cases e:m=nmC chs.length
  ·rw[qK e,qK e];show some (⟨nmC chs.length,ByteArray.empty++(hdS (chs.length:Nat)++jZ p),0⟩:zi)=_;rw[ByteArray.empty_append]
  ·rw[qJ e,qJ e,qJ e]
 have Q:b.l.map zi.name=(kH a.l ⟨nmC chs.length,ByteArray.empty,0⟩).map zi.name:=by
  rw[B];exact o8 (fun f=>{ f with data:=f.data++(hdS (chs.length:Nat)++jZ p) }) (fun _=>rfl) _ _
 have ak:jX b.l=jX D.l+(p.size+24):=by
  have t:=dC (kH a.l ⟨nmC chs.length,ByteArray.empty,0⟩) (nmC chs.length);rw[N,qK rfl]at t;have A:=mU _ _ _ (fun f=>{ f with data:=f.data++(hdS (chs.length:Nat)++jZ p) }) t;rw[oT,o.used]at A;have e:(ByteArray.empty++(hdS (chs.length:Nat)++jZ p)).size=p.size+24:=by rw[ByteArray.empty_append,c]
  rw[B];show jX (ja _ _ _)=_;have h2:jX (ja (kH a.l ⟨nmC chs.length,ByteArray.empty,0⟩) (jW (kH a.l ⟨nmC chs.length,ByteArray.empty,0⟩) (nmC chs.length)) (fun f=>{ f with data:=f.data++(hdS (chs.length:Nat)++jZ p) }))+0=jX D.l+0+(ByteArray.empty++(hdS (chs.length:Nat)++jZ p)).size:=A;rw[e]at h2;omega
 have ai:b.l.length=D.l.length+1:=by
  have A:=congrArg List.length Q;rw[qj,qj,su,o.length]at A;exact A
 have aj:=g.many;have ab:=r.endp
 have ah:L.endp<=4096*chs.length:=by
  rw[ab];unfold jn;split
  ·omega
  ·obtain⟨f,_,_,_,h4⟩:=nK g (by omega);omega
 have C:b.cap=D.cap/\b.count=D.count/\b.qn=D.qn/\b.down=false/\b.fails=0:=by
  rw[B];exact⟨o.cap,ag,o.qn,j.up,j.fails⟩
 refine⟨_,_,_,chs++[[p]],hA, ?_⟩;have P:(chs++[[p]]).length=chs.length+1:=by simp
 refine⟨⟨C.2.2.2.1,C.2.2.2.2,by omega,fun i I u=>?_,fun I ad=>?_,fun y R U=>?_, ?_⟩,⟨C.2.2.1.trans r.qn, ?_, ?_, ?_⟩, ?_, ?_, ?_, ?_,C.1,C.2.1,by omega,by omega,by omega,by omega, ?_, ?_, ?_, ?_, ?_⟩
 ·rw[O];by_cases e:i=chs.length
  ·subst e;rw[qK rfl];rw[List.getElem?_append_right (qZ _),Nat.sub_self]at u;obtain rfl:[p]=I:=(by simpa using u);exact⟨_,rfl,rfl⟩
  ·have ac:i<chs.length:=by
    have:=(qM.1 u).1;rw[P]at this;omega
   rw[qJ (fun q=>e (tN (by omega) (by omega) q))];rw[List.getElem?_append_left ac]at u;exact j.files i I u
 ·rcases qC.1 ad with h|h
  ·exact g.small I h
  ·obtain rfl:I=[p]:=(by simpa using h);refine⟨by show 12+(p.size+12+0)<=4096;omega,fun y R=>?_⟩;obtain rfl:y=p:=(by simpa using R);exact W
 ·have X:=pK R;rw[Q]at X;obtain⟨z,c,e⟩:=qN.1 X;rw[<-e]at U ⊢;rw[P];rcases lJ c with c|rfl
  ·obtain⟨i,u,Z⟩:=j.only z c U;exact⟨i,by omega,Z⟩
  ·exact⟨chs.length,by omega,rfl⟩
 ·rw[O,qJ (fun q=>KX (by omega) q.symm)];exact j.xq
 ·rw[P]
 ·rw[pV,yT];show 4096*chs.length+12+(p.size+12)=4096*chs.length+(12+(p.size+12+0))
  omega
 ·show L.endp<=4096*chs.length+12+(jZ p).size;omega
 ·rw[lC,nJ,Nat.zero_add];rfl
 ·show 4096*chs.length+12+(jZ p).size=_;rw[yT]
 ·omega
 ·show L.endp<=_;omega
 ·have H:uB chs p=false:=by unfold uB;exact qG (fun h=>J h.1 h.2)
  unfold plQ;rw[qJ (by simp[H])]
 ·have H:uB chs p=false:=by unfold uB;exact qG (fun h=>J h.1 h.2)
  unfold plC;rw[qJ (by simp[H])]
 ·have H:uB chs p=false:=by unfold uB;exact qG (fun h=>J h.1 h.2)
  rw[qJ (by simp[H])]
 ·intro k t;rw[O,qJ (fun e=>by rw[e,(fE (i:=chs.length) (by omega)).1]at t;cases t)];exact o.data k
 ·intro k t;rw[Q]at t;obtain⟨z,c,e⟩:=qN.1 t;rcases lJ c with c|rfl
  ·refine qX ?_;rw[<-o.names];exact qN.2 ⟨z,c,e⟩
  ·exact qY ⟨chs.length,by omega,e.symm⟩
theorem MJ(g:js D chs)(f:vi D L chs)(p:Tw)(i:p.size<=2000)(s:D.l.length<400):yV D L p=(0,60,D,L)∨∃q E M n,yV D L p=(q,0,E,M)/\dM D L chs p q E M n:=by
 by_cases c:0<chs.length/\12+jk (yF chs)+(p.size+12)<=4096
 ·obtain⟨a,x,rfl⟩:=tO c.1;rw[cR]at c;cases b:y8 D (jZ p)
  ·exact qX (MZ g f p i c.2 b)
  ·refine qY (KJ g f p i c.2 ?_);unfold y8 at b;rw[yT,decide_eq_true_eq]at b;omega
 ·have k:0<chs.length->¬12+jk (yF chs)+(p.size+12)<=4096:=fun o r=>c ⟨o,r⟩
  by_cases m:200<=chs.length∨y8 D (hdS (chs.length:Nat)++jZ p)=false
  ·exact qX (MX g f p i k m)
  ·have j:chs.length<=199:=(by omega);refine qY (KU g f p i k s j ?_)
   have b:y8 D (hdS (chs.length:Nat)++jZ p)=true:=by
    cases h:y8 D (hdS (chs.length:Nat)++jZ p)
    ·exact absurd (qY h) m
    ·rfl
   unfold y8 at b;rw[qT,cL j,yT,decide_eq_true_eq]at b;omega
theorem MK(g:js D chs)(c:vi D L chs)(p:Tw)(f:p.size<=2000)(n:D.l.length<400)(k:chs.length<=199)(o:jX D.l+(p.size+24)+6000<=D.cap):∃q E M i,yV D L p=(q,0,E,M)/\dM D L chs p q E M i:=by
 by_cases b:0<chs.length/\12+jk (yF chs)+(p.size+12)<=4096
 ·obtain⟨a,x,rfl⟩:=tO b.1;rw[cR]at b;exact KJ g c p f b.2 (by omega)
 ·exact KU g c p f (fun j m=>b ⟨j,m⟩) n k o
end
theorem pY: ∀(chs:List (List Tw)) (i:Nat) (x:Nat × Tw),x∈zo i chs->∃j b,chs[j]? = some b/\∃y∈vS 12 b,x.1=4096*(i+j)+y.1/\x.2=y.2
 | [],i,x,h=>by cases h
 | b::r,i,x,h=>by
   rcases qC.1 h with h|h
   ·refine⟨0,b,rfl, ?_⟩
    have:∀(l:List Tw) (k:Nat),x∈vS (4096*i+k) l->∃y∈vS k l,x.1=4096*(i+0)+y.1/\x.2=y.2:=by
     intro l
     induction l with
     | nil=>intro k a;cases a
     | cons p l o =>
       intro k a;rcases qL.1 a with rfl|a
       ·exact⟨(k,p),qB,rfl,rfl⟩
       ·obtain⟨y,c,e⟩:=o (k+(p.size+12)) (by rw[<-Nat.add_assoc];exact a);exact⟨y,qF _ c,e⟩
    exact this b 12 h
   ·obtain⟨j,q,n,y,c,f,m⟩:=pY r (i+1) x h;exact⟨j+1,q,n,y,c,by rw[f];omega,m⟩
section
variable {D:zr}{L:jV}{chs:List (List Tw)}
theorem pU(g:js D chs){i:Nat}{a:List Tw}(hi:chs[i]? = some a):i<=199/\∃f,jU D.l (nmC i)=some f/\f.data=uP i a/\f.data.size=12+jk a/\12+jk a<=4096/\(∀p∈a,p.size<=2000):=by
 have m:=(qM.1 hi).1;have n:=g.many;obtain⟨f,c,b⟩:=g.files i a hi;obtain⟨j,k⟩:=g.small a (qO hi);exact⟨by omega,f,c,b,by rw[b,oh (by omega)],j,k⟩
theorem MV(g:js D chs)(o:vi D L chs){q:Nat}{p:Tw}(h:(q,p)∈zo 0 chs):dE D L (q:Nat)=(p,0, { D with count:=D.count+2 })/\q<819200:=by
 obtain⟨j,t,s,y,T,m,n⟩:=pY chs 0 _ h;obtain⟨O,f,c,J,b,Y,M⟩:=pU g s;have Z:=(qM.1 s).1;have r:=cL O;obtain⟨U,V,W,X,u,i,z⟩:=od t (hdS (j:Nat)) M y (by rw[r];exact T);have N:kq (hdS (j:Nat)) t=f.data:=J.symm;rw[N]at U V W u i;rw[r]at X;rw[b]at u;dsimp only at m n;subst n;rw[Nat.zero_add]at m;have C:(q:Int)/4096=(j:Int):=by omega
 have H:(q:Int)%4096=(y.1:Int):=by omega
 refine⟨?_,by omega⟩;unfold dE;rw[qJ (by simp[lD g o]),C,H,o.xV,qJ (by omega),qh,qh];unfold oz;have S:=fV g.up c;have Q:=mr (a:=y.1) (k:=4) g.up c (by rw[b];omega);have I:jU ({ D with count:=D.count+1 }:zr).l (nmC j)=some f:=c;have R:=mr (D:={ D with count:=D.count+1 }) (a:=y.1) (k:=y.2.size+12) g.up I (by rw[b];omega)
 have P:jJ (f.data.extract y.1 (y.1+4))=y.2.size:=by
  have e:f.data.extract y.1 (y.1+4)=(jZ y.2).extract 0 4:=by
   rw[<-i,ByteArray.extract_extract];congr 1;have:=yT y.2;omega
  rw[e];exact FM y.2 z
 obtain⟨A,B⟩:=FL y.2 z;rw[S];dsimp only;rw[qJ (by simp),qJ (by rw[b];omega)];rw[show((4:Int))=((4:Nat):Int) from rfl,Q];dsimp only;rw[qJ (by simp),P,qJ (by rw[b];omega),R];dsimp only;rw[qJ (by simp),i,qK A,B]
def cS(l:List (Nat × Tw))(pos:Int)(D:zr):lV:=match l.find? (fun x=>decide (pos<=(x.1:Int))) with
 | none=>⟨ByteArray.empty,0,0,4,D⟩
 | some x=>⟨x.2,(x.1:Int),((x.1+(x.2.size+12):Nat):Int),0,D⟩
theorem KW(n:Nat)(pos:Int):∀(a:List Tw) (k:Nat),((vS k a).map (fun x=>(x.1:Int))).find? (fun x=>decide (pos<=(n:Int)*4096+x))=((vS (4096*n+k) a).find? (fun x=>decide (pos<=(x.1:Int)))).map (fun x=>(x.1:Int)-4096*n)
 | [],k=>rfl
 | p::a,k=>by
   show((k:Int)::_).find? _=(((4096*n+k,p)::vS (4096*n+k+(p.size+12)) a).find? _).map _;rw[List.find?_cons,List.find?_cons];have e:(n:Int)*4096+(k:Int)=((4096*n+k:Nat):Int):=(by omega);by_cases h:pos<=((4096*n+k:Nat):Int)
   ·rw[qW (by rw[e];exact h),qW h];show some (k:Int)=some (((4096*n+k:Nat):Int)-4096*n);congr 1;omega
   ·rw[qG (by rw[e];exact h),qG h];have:=KW n pos a (k+(p.size+12));rw[<-Nat.add_assoc (4096*n) k (p.size+12)]at this;exact this
theorem KA(g:js D chs)(pos:Int):∀(k n c:Nat),n+k=chs.length->∃b,b<=c+k/\uA k n { D with count:=c } pos=cS (zo n (chs.drop n)) pos { D with count:=b }
 | 0,n,c,h=>⟨c,qZ _,by
   rw[List.drop_eq_nil_of_le (by omega)];rfl⟩
 | k+1,n,c,h=>by
   have r:n<chs.length:=(by omega);have N:=qD r;obtain⟨s,f,C,l,V,W,m⟩:=pU g N;have t:=JK (D:={ D with count:=c }) (n:=nmC n) (f:=f) g.up C;obtain⟨i,S,T⟩:=JU s chs[n] m;rw[<-l]at i S T;have I:chs.drop n=chs[n]::chs.drop (n+1):=List.drop_eq_getElem_cons r;have p:=KW n pos chs[n] 12;have o:zo n (chs.drop n)=vS (4096*n+12) chs[n]++zo (n+1) (chs.drop (n+1)):=(by rw[I];rfl);have J:=cL s;cases a:(vS (4096*n+12) chs[n]).find? (fun x=>decide (pos<=(x.1:Int))) with
   | none =>
     obtain⟨b,X,e⟩:=KA g pos k (n+1) (c+1) (by omega);refine⟨b,by omega, ?_⟩;rw[uA,t,qJ (by simp)];dsimp only;rw[i,p,a];dsimp only[Option.map];rw[e];unfold cS;rw[o,List.find?_append,a];rfl
   | some x =>
     refine⟨c+1,by omega, ?_⟩;rw[uA,t,qJ (by simp)];dsimp only;rw[i,p,a];dsimp only[Option.map];have P:=List.mem_of_find?_eq_some a;have O:x∈zo n [chs[n]]:=(by rw[nJ];exact P);obtain⟨j,R,q,y,Q,U,A⟩:=pY _ _ _ O;have M:j=0:=(by have:=(qM.1 q).1;simpa using this);subst M;obtain rfl:chs[n]=R:=(by simpa using q);obtain⟨Y,u,z,Z,r5,r6,r7⟩:=od chs[n] (hdS (n:Nat)) m y (by rw[J];exact Q);have H:kq (hdS (n:Nat)) chs[n]=f.data:=l.symm;rw[H]at u z;have B:(x.1:Int)-4096*n=(y.1:Nat):=(by omega);rw[B,u,z];unfold cS;rw[o,List.find?_append,a];show(⟨y.2,_,_,0,_⟩:lV)=⟨x.2,_,_,0,_⟩
     rw[A];congr 1
     ·omega
     ·omega
theorem MY(g:js D chs)(x:Nat × Tw)(n:Nat)(h:x∈zo 0 (chs.take n)):x.1<4096*n:=by
 obtain⟨j,a,b,y,m,p,q⟩:=pY _ _ _ h
 have l:j<n/\chs[j]? = some a:=by
  have k:=(qM.1 b).1;rw[qq]at k;rw[List.getElem?_take,qK (by omega)]at b;exact⟨by omega,b⟩
 obtain⟨c,f,r,s,t,u,i⟩:=pU g l.2;obtain⟨z,A,B,C,o,H,I⟩:=od a (hdS (j:Nat)) i y (by rw[cL c];exact m);rw[show kq (hdS (j:Nat)) a=uP j a from rfl,oh c]at o;omega
theorem MU(g:js D chs)(a:vi D L chs)(pos:Nat):∃c,c<=D.count+200/\oj D L (pos:Nat)=cS (zo 0 chs) (pos:Nat) { D with count:=c }:=by
 have p:=g.many;unfold oj;rw[qJ (by simp[lD g a]),a.xV];have j:(max (pos:Int) 0/4096).toNat=pos/4096:=by omega
 rw[j];have f:zo 0 chs=zo 0 (chs.take (pos/4096))++zo (0+(chs.take (pos/4096)).length) (chs.drop (pos/4096)):=by rw[<-lC,ql]
 have b:(zo 0 (chs.take (pos/4096))).find? (fun x=>decide ((pos:Int)<=(x.1:Int)))=none:=by
  rw[List.find?_eq_none];intro x n;have:=MY g x _ n;simp;omega
 rcases Nat.lt_or_ge (pos/4096) chs.length with m|l
 ·obtain⟨c,o,e⟩:=KA g (pos:Nat) (chs.length-pos/4096) (pos/4096) D.count (by omega);refine⟨c,by omega, ?_⟩;have k:({ D with count:=D.count }:zr)=D:=rfl;rw[k]at e;rw[e];unfold cS;rw[f,List.find?_append,b,qq,Nat.min_eq_left (Nat.le_of_lt m),Nat.zero_add];rfl
 ·refine⟨D.count,by omega, ?_⟩;have i:chs.length-pos/4096=0:=by omega
  rw[i];unfold cS;rw[f,List.find?_append,b,List.drop_eq_nil_of_le l];rfl
end
theorem KB: ∀(a b:List Tw),a.Pairwise (fun x y=>kB x y=true)->b.Pairwise (fun x y=>kB x y=true)->(∀x,x∈a↔x∈b)->a=b
 | [],[],_,_,_=>rfl
 | [],y::b,_,_,h=>by have:=(h y).2 qB;cases this
 | x::a,[],_,_,h=>by have:=(h x).1 qB;cases this
 | x::a,y::b,ha,hb,h=>by
   obtain⟨i,k⟩:=List.pairwise_cons.1 ha;obtain⟨j,l⟩:=List.pairwise_cons.1 hb
   have e:x=y:=by
    rcases qL.1 ((h x).1 qB) with e|m
    ·exact e
    ·rcases qL.1 ((h y).2 qB) with e|n
     ·exact e.symm
     ·exact absurd (tI (i y n) (j x m)) (lA x)
   subst e;congr 1;refine KB a b k l (fun z=>⟨fun c=>?_,fun c=>?_⟩)
   ·rcases qL.1 ((h z).1 (qF _ c)) with rfl|f
    ·exact absurd (i z c) (lA z)
    ·exact f
   ·rcases qL.1 ((h z).2 (qF _ c)) with rfl|f
    ·exact absurd (j z c) (lA z)
    ·exact f
theorem tP: ∀(l:List Tw) (c:Nat),vy l c=vy (l.filter isC) c
 | [],c=>rfl
 | s::r,c=>by
   cases h:isC s
   ·rw[List.filter_cons_of_neg (by simp[h]),<-tP r c];rw[vy,qJ (by simp[h])]
   ·rw[List.filter_cons_of_pos h,vy,vy,qK h,qK h,tP r (c+1)]
theorem KC: ∀(m c:Nat),c+m<=200->vy ((List.range' c m).map nmC) c=(0,c+m)
 | 0,c,_=>rfl
 | m+1,c,h=>by
   rw[List.range'_succ,List.map_cons];obtain⟨a,b⟩:=fE (i:=c) (by omega);rw[vy,qK a,b,qJ (by omega),KC m (c+1) (by omega)];congr 1;omega
theorem MG{D:zr}{chs:List (List Tw)}(g:js D chs)(t:D.l.Pairwise (fun f g=>kB f.name g.name=true)):vy (D.l.map zi.name) 0=(0,chs.length):=by
 have y:=g.many
 have e:(D.l.map zi.name).filter isC=(List.range' 0 chs.length).map nmC:=by
  refine KB _ _ (List.Pairwise.filter _ (List.pairwise_map.2 t)) ?_ (fun x=>⟨fun j=>?_,fun j=>?_⟩)
  ·refine List.pairwise_map.2 ?_;refine List.Pairwise.imp_of_mem ?_ (List.pairwise_lt_range' (s:=0) (n:=chs.length) (step:=1) (by omega));intro a b p q u;rw[List.mem_range'_1]at p q;have:=Ug 99 (m:=a) (n:=b) (by omega) (by omega);unfold kB;rw[show(nmC a).toList=(nmS 99 (a:Nat)).toList from rfl,show(nmC b).toList=(nmS 99 (b:Nat)).toList from rfl,this];exact qW (by omega)
  ·obtain⟨c,o⟩:=List.mem_filter.1 j;obtain⟨f,r,rfl⟩:=qN.1 c;obtain⟨i,k,e⟩:=g.only f r o;exact qN.2 ⟨i,by rw[List.mem_range'_1];omega,e.symm⟩
  ·obtain⟨i,k,rfl⟩:=qN.1 j;rw[List.mem_range'_1]at k;obtain⟨f,c,_⟩:=g.files i chs[i] (qD (by omega));refine List.mem_filter.2 ⟨?_,(fE (by omega)).1⟩;have:=pK (DH c);rw[DF c]at this;exact this
 rw[tP,e,KC _ _ (by omega),Nat.zero_add]
theorem KD{D:zr}{chs:List (List Tw)}(g:js D chs):∀(k n c:Nat) (L:jV),n+k=chs.length->(k=0->L.endp=jn chs)->∃E a,yY k n { D with count:=c } L=(0,E, { L with endp:=jn chs })/\kD D E/\E.count=a/\a<=c+k
 | 0,n,c,L,h,hL=>⟨_,c,by rw[<-hL rfl];rfl,kD.count D c,rfl,qZ _⟩
 | k+1,n,c,L,h,hL=>by
   have t:n<chs.length:=(by omega);have l:=qD t;obtain⟨u,f,j,p,q,H,r⟩:=pU g l;have y:=JK (D:={ D with count:=c }) (n:=nmC n) (f:=f) g.up j;obtain⟨C,i,m⟩:=JU u chs[n] r;rw[<-p]at C i m;rw[yY,y,qJ (by simp)];dsimp only;rw[m,qJ (by simp)];by_cases b:k=0
   ·rw[qK b,i];unfold cM;rw[qJ (by omega),qJ (by omega)];have z:=Zv (D:={ D with count:=c+1 }) (n:=nmC n) (f:=f) g.up g.fails j;refine⟨_,c+1, ?_,(kD.count D (c+1)).trans (kD.synced _ (nmC n)),rfl,by omega⟩;show((j6 { D with count:=c+1 } (nmC n)).1,(j6 { D with count:=c+1 } (nmC n)).2,_)=_;rw[z]
    have e:jn chs=4096*n+f.data.size:=by
     have s:yF chs=chs[n]:=by
      unfold yF;rw[List.getLast?_eq_getElem?,show chs.length-1=n by omega,l];rfl
     unfold jn;rw[qJ (by omega),s,q,show chs.length-1=n by omega]
    rw[e]
   ·rw[qJ b,i,qJ (by omega)];obtain⟨E,a,e,A,B,I⟩:=KD g k (n+1) (c+1) { L with endp:=4096*n+f.data.size } (by omega) (fun o=>absurd o b);exact⟨E,a,e,A,B,by omega⟩
theorem MW{D:zr}{chs:List (List Tw)}(g:js D chs)(c:D.l.Pairwise (fun f g=>kB f.name g.name=true)):∃E,y9 D=(0,E,⟨D.qn,chs.length,jn chs,0⟩)/\kD D E/\E.count<=D.count+200:=by
 have m:=g.many
 have i:vG D=(0,D):=by
  unfold vG;rw[Zu g.up g.xq,qK rfl]
 have b:yE D ⟨D.qn,0,0,0⟩=(0,D,⟨D.qn,chs.length,0,0⟩):=by
  unfold yE;rw[MG g c]
 obtain⟨E,k,e,j,n,o⟩:=KD g chs.length 0 D.count ⟨D.qn,chs.length,0,0⟩ (by omega) (fun a=>by unfold jn;rw[qK a]);refine⟨E, ?_,j,by omega⟩;unfold y9;rw[KV i,b,KK];exact e
theorem MA(c:Nat)(b:c<=1048576):js (yf c) []:=⟨rfl,rfl,qH _,fun i a h=>(by simp at h),fun a h=>(by cases h),fun f h=>(by cases h),rfl⟩
end
section
open Go.RowKit
abbrev Rec:= Nat × Tw
def kx(x:Rec):Nat:=x.1+(x.2.size+12)
def gY(l:List Rec):Prop:=l.Pairwise (fun x y=>kx x<=y.1)
def cT(l:List Rec)(k:Nat):Nat:=if k=0 then 0 else(l[k-1]?.map kx).getD 0
theorem MB{l:List Rec}{k:Nat}{x:Rec}(h:l[k]? = some x):cT l (k+1)=kx x:=by unfold cT;rw[qJ (by omega),Nat.add_sub_cancel,h];rfl
theorem KE: ∀(l:List Tw) (k:Nat),gY (vS k l)/\∀x∈vS k l,k<=x.1/\kx x<=k+jk l
 | [],k=>⟨List.Pairwise.nil,fun x h=>by cases h⟩
 | p::l,k=>by
   obtain⟨c,b⟩:=KE l (k+(p.size+12));refine⟨List.pairwise_cons.2 ⟨fun y f=>(b y f).1,c⟩,fun x a=>?_⟩;show _/\_<=k+(p.size+12+jk l)
   rcases qL.1 a with rfl|a
   ·refine⟨qZ _, ?_⟩;show k+(p.size+12)<=_;omega
   ·have:=b x a;omega
theorem fF: ∀(chs:List (List Tw)) (i:Nat),(∀b∈chs,12+jk b<=4096)->gY (zo i chs)/\∀x∈zo i chs,4096*i+12<=x.1/\kx x<=4096*(i+chs.length)
 | [],i,_=>⟨List.Pairwise.nil,fun x h=>by cases h⟩
 | b::r,i,h=>by
   obtain⟨j,c⟩:=fF r (i+1) (fun q l=>h q (qF _ l));obtain⟨k,f⟩:=KE b (4096*i+12);have n:=h b qB;refine⟨List.pairwise_append.2 ⟨k,j,fun x a y m=>?_⟩,fun x a=>?_⟩
   ·have:=(f x a).2;have:=(c y m).1;omega
   ·rw[qk];rcases qC.1 a with a|a
    ·have:=f x a;omega
    ·have:=c x a;omega
theorem KF(chs:List (List Tw))(h:∀b∈chs,12+jk b<=4096):cT (zo 0 chs) (zo 0 chs).length=jn chs∨(jn chs%4096=12/\cT (zo 0 chs) (zo 0 chs).length+12<=jn chs):=by
 by_cases i:0<chs.length
 ·obtain⟨a,x,rfl⟩:=tO i;rw[pV,lC,nJ,Nat.zero_add];by_cases f:0<x.length
  ·left;have c:x≠[]:=(by intro e;rw[e]at f;simp at f);obtain⟨y,p,rfl⟩:∃y p,x=y++[p]:=⟨x.dropLast,x.getLast c,(List.dropLast_concat_getLast c).symm⟩
   rw[tX,<-qd,qI,List.length_singleton,oc];rw[MB (x:=(4096*a.length+12+jk y,p)) (by rw[List.getElem?_append_right (qZ _),Nat.sub_self];rfl)];show 4096*a.length+12+jk y+(p.size+12)=_;omega
  ·have e:x=[]:=List.eq_nil_of_length_eq_zero (by omega);subst e;right;show(4096*a.length+(12+0))%4096=12/\cT (zo 0 a++[]) (zo 0 a++[]).length+12<=4096*a.length+(12+0)
   rw[List.append_nil];refine⟨by omega, ?_⟩;obtain⟨_,j⟩:=fF a 0 (fun b k=>h b (qA _ k))
   have:cT (zo 0 a) (zo 0 a).length<=4096*a.length:=by
    unfold cT;split
    ·exact qH _
    ·rw[qD (by omega)];have:=(j _ (List.getElem_mem (show(zo 0 a).length-1<(zo 0 a).length by omega))).2;rw[Nat.zero_add]at this;exact this
   omega
 ·have e:chs=[]:=List.eq_nil_of_length_eq_zero (by omega);subst e;exact qX rfl
end
end Go.Proofs.YthejglbnkmimjaaGreat

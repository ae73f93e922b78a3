import Derived.Sort.Walk0
import Derived.Sort.KeysCollected
import Derived.Deep.AppendSrc
import Derived.Test.YthejglbnkmimjaaGreatPp07
set_option linter.unusedVariables false
set_option maxRecDepth 100000
set_option maxHeartbeats 9000000
namespace Go.Proofs.YthejglbnkmimjaaGreat
open Proofs.Tryz
section
open Go.RowKit
theorem nN(a b:Tw):vT a b=true↔a.data.toList<b.data.toList:=by
 unfold vT;rw[bytesLess_eq,ByteArray.toList_eq,ByteArray.toList_eq];exact decide_eq_true_iff
theorem BY{a b:Tw}(h:a.data.toList=b.data.toList):a=b:=qi (Array.toList_inj.1 h)
theorem oc(a:Tw):¬vT a a=true:=fun h=>List.lt_irrefl _ ((nN a a).1 h)
theorem Jz{a b c:Tw}(h:vT a b=true)(k:vT b c=true):vT a c=true:=(nN a c).2 (List.lt_trans ((nN a b).1 h) ((nN b c).1 k))
theorem qQ3{a b:Tw}(h:¬vT a b=true)(i:a≠b):vT b a=true:=by
 rw[nN]at h ⊢;have f:b.data.toList<=a.data.toList:=List.not_lt.1 h;rcases Decidable.em (b.data.toList<a.data.toList) with c|c
 ·exact c
 ·exact absurd (BY (List.le_antisymm (List.not_lt.1 c) f)) i
def gA(l:List jO):Prop:=l.Pairwise (fun x y=>vT x.name y.name=true)
theorem gA.ne{l:List jO}(h:gA l){i j:Nat}{x y:jO}(hi:l[i]? = some x)(a:l[j]? = some y)(f:i<j):vT x.name y.name=true:=by
 have b:=(qO.1 a).1;have:=xY.1 h i j (by omega) b f;rw[qE (by omega)]at hi;rw[qE b]at a;injection hi with hi;injection a with a;rw[hi,a]at this;exact this
theorem sX{l:List jO}{n:Tw}(h:¬jx l n<l.length):∀x∈l,x.name≠n:=by
 intro x b e;obtain⟨j,a⟩:=ql b;have:=Lq a e;have:=(qO.1 a).1;omega
theorem qQ4(l:List jO)(n:Tw):∀x∈l.take (yD l n),vT x.name n=true:=by
 intro x k;obtain⟨j,a⟩:=ql k;have b:=(qO.1 a).1;rw[qT]at b;rw[List.getElem?_take,qV (by omega),qE (by omega)]at a;injection a with a;have:=List.not_of_lt_findIdx (p:=fun f=>!vT f.name n) (xs:=l) (i:=j) (by unfold yD at b;omega);rw[a]at this;simpa using this
theorem qQ5(l:List jO)(n:Tw)(r:gA l)(q:∀x∈l,x.name≠n):∀x∈l.drop (yD l n),vT n x.name=true:=by
 intro x s;obtain⟨j,a⟩:=ql s;rw[List.getElem?_drop]at a;have u:=(qO.1 a).1;have b:yD l n<l.length:=by omega
 have o:l.findIdx (fun f=>!vT f.name n)<l.length:=b;have k:=List.findIdx_getElem (p:=fun f=>!vT f.name n) (xs:=l) (w:=o)
 have m:¬vT (l[yD l n]).name n=true:=by
  have:(!vT (l[yD l n]).name n)=true:=k;simpa using this
 have i:=qQ3 m (q _ (List.getElem_mem b));rcases Nat.eq_zero_or_pos j with rfl|t
 ·rw[Nat.add_zero,qE b]at a;injection a with a;rw[<-a];exact i
 ·exact Jz i (r.ne (qE b) a (by omega))
theorem BU{l:List jO}(k:gA l)(f:jO)(p:∀x∈l,x.name≠f.name):gA (kO l f):=by
 unfold kO gA;have m:=qQ4 l f.name;have n:=qQ5 l f.name k p;have q:(l.take (yD l f.name)).Pairwise (fun x y=>vT x.name y.name=true):=List.Pairwise.sublist (List.take_sublist _ _) k;have o:(l.drop (yD l f.name)).Pairwise (fun x y=>vT x.name y.name=true):=List.Pairwise.sublist (List.drop_sublist _ _) k;rw[qh];refine List.pairwise_append.2 ⟨q,List.pairwise_append.2 ⟨List.pairwise_singleton _ _,o,fun a j b i=>?_⟩,fun a j b i=>?_⟩
 ·obtain rfl:a=f:=by simpa using j
  exact n b i
 ·rcases qD.1 i with i|i
  ·obtain rfl:b=f:=(by simpa using i);exact m a j
  ·exact Jz (m a j) (n b i)
theorem Jj{l:List jO}(q:gA l)(i:Nat):gA (kr l i):=by
 unfold kr gA;have e:l=l.take i++l.drop i:=(qp i l).symm;have j:(l.take i++l.drop i).Pairwise (fun x y=>vT x.name y.name=true):=by rw[qp];exact q
 obtain⟨k,m,n⟩:=List.pairwise_append.1 j;have f:(l.drop (i+1)).Sublist (l.drop i):=by rw[<-List.drop_drop];exact List.drop_sublist _ _
 exact List.pairwise_append.2 ⟨k,m.sublist f,fun a o b p=>n a o b (f.subset p)⟩
theorem qQ6{l:List jO}(m:gA l){i:List (List UInt8)}(k:i.Perm (l.map (fun f=>f.name.data.toList))):i.mergeSort (fun x y=>decide (x<=y))=l.map (fun f=>f.name.data.toList):=by
 have j:i.mergeSort leB=(l.map (fun f=>f.name.data.toList)).mergeSort leB:=mergeSort_of_perm k;refine Eq.trans j (List.mergeSort_of_pairwise ?_);refine List.pairwise_map.2 (m.imp fun {a b} h=>?_);show decide (a.name.data.toList<=b.name.data.toList)=true;exact qB (List.le_of_lt ((nN _ _).1 h))
theorem BG{l:List jO}(i:gA l):(l.map (fun f=>f.name.data.toList)).Nodup:=by
 refine List.pairwise_map.2 (i.imp fun {a b} h e=>?_);have:=(nN _ _).1 h;rw[e]at this;exact List.lt_irrefl _ this
theorem BW{l:List jO}(f:gA l):l.Pairwise (fun x y=>x.name≠y.name):=f.imp fun {a b} h e=>by rw[e]at h;exact oc _ h
end
section
open Go.RowKit
open Go.Maps (Keyed)
def gC: Value->Option (DataW Unit × List MemPlace)
 | .pointer none=>some (.lit (.int .i64 (-1)),[])
 | .pointer (some ⟨b,0,none⟩)=>some (.lit (.int .i64 (b:Int)),[])
 | _=>none
theorem Q6{v:Value}{y:DataW Unit × List MemPlace}(h:gC v=some y):(v=.pointer none/\y.1=.lit (.int .i64 (-1)))∨∃b:Nat,v=.pointer (some ⟨b,0,none⟩)/\y.1=.lit (.int .i64 (b:Int)):=by
 unfold gC at h;split at h
 ·injection h with h;subst h;exact qX ⟨rfl,rfl⟩
 ·rename_i b;injection h with h;subst h;exact qY ⟨b,rfl,rfl⟩
 ·cases h
def y8(n:Tw):Lit:=.string n.data.toList
theorem od{a b:Tw}(h:y8 a=y8 b):a=b:=by unfold y8 at h;injection h with h;exact BY h
theorem Jk{n:Tw}(h:n.size<=maxLen):keyOf prog 9 (.string n)=some (y8 n):=Go.WideMaps.keyOf_string_mk Tryz.underlying9 h
theorem BA(n:Tw):WideAt.IsKeyLit (y8 n):=trivial
theorem nO: Keyed prog 9:=Maps.string_keyed Tryz.underlying9
theorem qQ7(w:World):(zeroValue 149).run prog w=.ok (.pointer none) w:=by kernel_rfl
structure fM(D0:DataW Unit)(L:List (Tw × Nat)):Prop where
 yes:∀x∈L,∀zd,D0.atKey (y8 x.1) zd=.lit (.int .i64 (x.2:Int))
 no:∀n:Tw,(∀x∈L,x.1≠n)->Maps.has D0 (y8 n)=false
def yJ(w:World)(mb:Nat)(L:List (Tw × Nat)):Prop:=∃n D0,w.ownsMap prog 9 gC mb n D0/\fM D0 L
section
variable {w w':World}{mb:Nat}{L L':List (Tw × Nat)}{D0:DataW Unit}{F:List Nat}
theorem qQ8{n:Nat}(h:w.ownsMap prog 9 gC mb n D0)(k:jP F w w')(j:mb ∉ F):w'.ownsMap prog 9 gC mb n D0:=by
 have i:=h.lt;obtain⟨b,a,f,r⟩:=h;exact⟨b,a,(k.block mb i j).trans f,r⟩
theorem yJ.xC(h:yJ w mb L)(i:jP F w w')(f:mb ∉ F):yJ w' mb L:=by
 obtain⟨n,D0,a,b⟩:=h;exact⟨n,D0,qQ8 a i f,b⟩
theorem yJ.lt(h:yJ w mb L):mb<w.1.size:=by
 obtain⟨n,D0,a,b⟩:=h;exact a.lt
theorem yJ.ne{g:Nat}{t:TypeId}{cs:Array Value}(h:yJ w mb L)(b:jN w g t cs):mb≠g:=by
 rintro rfl;obtain⟨n,D0,⟨i,f,a,_⟩,_⟩:=h;unfold jN at b;rw[b]at a;cases a
theorem yJ.own_ne{base size n:Nat}{e:TypeId}{v:Value}{xs:List Value}(h:yJ w mb L)(j:w.ownsRow base e size v n xs):v.ownBlock≠some mb:=by
 intro b;rcases j.2 with⟨rfl,_⟩|⟨a,k,f,rfl,_,i,_⟩
 ·cases b
 ·obtain rfl:a=mb:=by simpa[Value.ownBlock] using b
  exact h.ne (show jN w a e f from i) rfl
theorem fM.has(h:fM D0 L){x:Tw × Nat}(a:x∈L):Maps.has D0 (y8 x.1)=true:=Maps.has_true_of_atKey (h.yes x a)
theorem fM.mem(h:fM D0 L){n:Tw}(a:Maps.has D0 (y8 n)=true):∃x∈L,x.1=n:=by
 rcases Classical.em (∃x∈L,x.1=n) with c|c
 ·exact c
 ·have:=h.no n (fun x b e=>c ⟨x,b,e⟩);rw[a]at this;cases this
theorem BC{n:Nat}(h:w.ownsMap prog 9 gC mb n D0){m:Tw}(k:m.size<=maxLen):
  ∃v l,(Instr.lookup 80 (.map (some mb)) (.string m) false).run prog w=.ok v w/\gC v=some (D0.atKey (y8 m) (.lit (.int .i64 (-1))),l):=by
 obtain⟨p,o,j,F,_,rfl⟩:=h;rcases Maps.fit_look false nO Tryz.underlying80 (qQ7 w) j F (Jk k) with⟨b,_,a⟩|⟨f,y,_,_,b,i,a,_⟩
 ·exact⟨_,[],b,by rw[a];rfl⟩
 ·exact⟨f.val,y.2,b,by rw[a];exact i⟩
theorem yJ.look(h:yJ w mb L){m:Tw}(k:m.size<=maxLen){b:Nat}(o:(m,b)∈L):
  (Instr.lookup 80 (.map (some mb)) (.string m) false).run prog w=.ok (.pointer (some ⟨b,0,none⟩)) w:=by
 obtain⟨n,D0,i,j⟩:=h;obtain⟨v,p,l,a⟩:=BC i k;rw[j.yes (m,b) o]at a;rcases Q6 a with⟨rfl,e⟩|⟨f,rfl,e⟩
 ·simp only[DataW.lit.injEq,Lit.int.injEq,true_and]at e;omega
 ·simp only[DataW.lit.injEq,Lit.int.injEq,true_and]at e;obtain rfl:b=f:=by omega
  exact l
theorem yJ.zq(h:yJ w mb L){m:Tw}(i:m.size<=maxLen)(k:∀x∈L,x.1≠m):
  (Instr.lookup 80 (.map (some mb)) (.string m) false).run prog w=.ok (.pointer none) w:=by
 obtain⟨n,D0,b,f⟩:=h;obtain⟨v,o,j,a⟩:=BC b i;rw[Maps.atKey_of_not_has (f.no m k)]at a;rcases Q6 a with⟨rfl,e⟩|⟨l,rfl,e⟩
 ·exact j
 ·simp only[DataW.lit.injEq,Lit.int.injEq,true_and]at e;omega
theorem fM.keys{n:Nat}(h:fM D0 L)(j:w.ownsMap prog 9 gC mb n D0)(k:(L.map (fun x=>x.1.data.toList)).Nodup):(L.map (fun x=>x.1.data.toList)).Perm (strKeys D0):=by
 obtain⟨q,e,f,_⟩:=j.entries nO;obtain⟨r,b,l⟩:=j.keysOf;rw[e]at b;injection b with b;subst b;rw[e];refine perm_strKeys f (fun p f=>?_) k (fun x=>?_)
 ·obtain⟨v,o⟩:=l p f;obtain⟨x,_,a,_⟩:=Maps.keyOf_str Tryz.underlying9 o;exact⟨x,a⟩
 ·rw[<-e];constructor
  ·intro a;obtain⟨y,i,rfl⟩:=qP.1 a;exact h.has i
  ·intro a;obtain⟨y,i,m⟩:=h.mem (n:=⟨x.toArray⟩) (by unfold y8;simpa using a);exact qP.2 ⟨y,i,by rw[m]⟩
theorem fM.size{n:Nat}(h:fM D0 L)(b:w.ownsMap prog 9 gC mb n D0)(f:(L.map (fun x=>x.1.data.toList)).Nodup):Maps.size D0=L.length:=by
 have:=(h.keys b f).length_eq;obtain⟨a,e,_⟩:=b.entries nO;rw[e]at this ⊢;rw[qq]at this;show a.length=_;rw[this];show _=(a.map _).length;rw[qq]
theorem yJ.len(h:yJ w mb L)(i:(L.map (fun x=>x.1.data.toList)).Nodup)(b:TypeId):(Builtin.len_ #[80] b #[.map (some mb)]).run prog w=.ok (.int .i64 (L.length:Nat)) w:=by
 obtain⟨n,D0,a,f⟩:=h;rw[a.len Tryz.underlying80 b,f.size a i]
theorem qQ9{n:Nat}(i:w.ownsMap prog 9 gC mb n D0):w.ownsMap prog 9 gC mb (Maps.size D0) D0:=by
 obtain⟨a,b,f,F,j,rfl⟩:=i;refine⟨a,b,f,F, ?_,rfl⟩;exact Nat.le_of_eq (length_read (R0:=gC) a).symm
theorem yJ.store(h:yJ w mb L)(t:(L.map (fun x=>x.1.data.toList)).Nodup)(J:L.length<=400){m:Tw}(y:m.size<=maxLen){b:Nat}
  (p:(m,b)∈L') (q:∀x∈L',x=(m,b)∨(x∈L/\x.1≠m)) (r:∀x∈L,x.1≠m->x∈L'):
  ∃w',(Instr.mapUpdate 80 (.map (some mb)) (.string m) (.pointer (some ⟨b,0,none⟩))).run prog w=.ok () w'/\yJ w' mb L'/\jP [mb] w w':=by
 obtain⟨n,D0,i,f⟩:=h;have B:=f.size i t;obtain⟨w',A,z,C⟩:=(qQ9 i).store nO Tryz.underlying80 (by rw[B];unfold maxLen;omega) (Jk y) (val:=.pointer (some ⟨b,0,none⟩)) rfl;refine⟨w',A,⟨_,_,z,⟨fun x j I=>?_,fun s l=>?_⟩⟩,(jP.refl [mb] w).grown C.grown (fun k u=>qX (by simpa using u.symm))⟩
 ·rcases q x j with rfl|⟨H,a⟩
  ·exact Maps.atKey_put_same i.isMap (BA _) _ _
  ·rw[Maps.atKey_put_other (fun e=>a (od e))];exact f.yes x H I
 ·have a:m≠s:=l (m,b) p;rw[Maps.has_put_other (fun e=>a (od e).symm)];refine f.no s (fun x j e=>?_);exact l x (r x j (fun o=>a (o.symm.trans e))) e
theorem yJ.drop(h:yJ w mb L){m:Tw}(q:m.size<=maxLen)(l:∀x∈L',x∈L/\x.1≠m)(o:∀x∈L,x.1≠m->x∈L')(i:TypeId):
  ∃w',(Builtin.delete_ #[80,9] i #[.map (some mb),m]).run prog w=.ok (.tuple #[]) w'/\yJ w' mb L'/\jP [mb] w w':=by
 obtain⟨n,D0,r,f⟩:=h;obtain⟨w',u,t,z⟩:=r.drop nO Tryz.underlying80 (Jk q) i;refine⟨w',u,⟨_,_,t,⟨fun x b B=>?_,fun s y=>?_⟩⟩,(jP.refl [mb] w).grown z.grown (fun k p=>qX (by simpa using p.symm))⟩
 ·obtain⟨A,a⟩:=l x b;rw[Maps.atKey_del_other (fun e=>a (od e))];exact f.yes x A B
 ·rcases Decidable.em (s=m) with rfl|a
  ·exact Maps.has_del_same
  ·rw[Maps.has_del_other (fun e=>a (od e))];refine f.no s (fun x b e=>?_);exact y x (o x b (fun j=>a (e.symm.trans j))) e
end
theorem yJ.made(w:World)(o:Obj)(a:o=.map #[] 0):yJ (w.alloc o) w.1.size []:=by
 subst a;exact⟨_,_,World.ownsMap_made _ _ _ _,⟨fun x b=>(by cases b),fun n _=>rfl⟩⟩
end
section
open Go.RowKit
theorem qQq(d:Tw)(j:Nat):(byteCells d)[j]? = (d.data[j]?).map (fun b=>Value.int .u8 (b.toNat:Int)):=by
 unfold byteCells;rw[qv,Array.getElem?_toList]
theorem qQx(d s:Tw):byteCells (d++s)=byteCells d++byteCells s:=by
 unfold byteCells;rw[ByteArray.data_append,Array.toList_append,List.map_append]
theorem qQz(d:Tw)(m:Nat):byteCells (d.extract 0 m)=(byteCells d).take m:=by
 unfold byteCells;rw[ByteArray.data_extract,Array.toList_extract,<-List.map_take];simp
theorem qQj(d:Tw):∀u∈byteCells d,u.oneCell'=true:=by
 intro u a;obtain⟨b,_,rfl⟩:=qP.1 a;rfl
abbrev bh(w:World)(base:Nat)(v:Value)(d:Tw):Prop:=w.ownsRow base 5 1 v d.size (byteCells d)
theorem qQk(w:World)(base:Nat):bh w base (.slice none 0 0) ByteArray.empty:=World.ownsRow_nil w base _ 1
section
variable {w:World}{base:Nat}{v:Value}{d:Tw}
theorem mE(h:bh w base v d):∃A a,v=.slice A d.size a/\d.size<=a/\a<=maxLen/\(0<a->∃b,A=some ⟨b,0,none⟩/\base<=b/\b<w.1.size)/\(a=0->d.size=0):=by
 rcases h.2 with⟨rfl,e⟩|⟨g,a,k,rfl,j,o,f,i,m,n⟩
 ·exact⟨none,0,by rw[e],by omega,qI _,fun h=>absurd h (by omega),fun _=>e⟩
 ·exact⟨_,a,rfl,f,i,fun _=>⟨g,rfl,j,(h.lt g rfl).2⟩,fun l=>by omega⟩
theorem qQv{A:Option Addr}{a:Nat}(h:bh w base (.slice A d.size a) d){m:Nat}(r:m<=d.size):bh w base (.slice A m a) (d.extract 0 m):=by
 have n:(d.extract 0 m).size=m:=by rw[qk];omega
 unfold bh;rw[n,qQz];refine⟨by rw[qT,h.1];omega, ?_⟩;rcases h.2 with⟨e,p⟩|⟨g,o,b,e,k,l,q,f,i,j⟩
 ·injection e with e e3 e4;exact qX ⟨by rw[e,e4,show m=0 by omega],by omega⟩
 ·simp only[Value.slice.injEq,true_and]at e;obtain⟨rfl,rfl⟩:=e;refine qY ⟨g,a,b,rfl,k,l,by omega,f,i, ?_⟩;rw[<-j,List.take_take];congr 1;omega
theorem qQy: (prog.info? 5).map (fun i=>(i.zero,i.size,i.bytes))=some (some (.int .u8 0),1,1):=by kernel_rfl
theorem qQu(h:bh w base v d)(s:Tw)(hs:d.size+s.size<=1099511627776)(R:base<=w.1.size)(r:TypeId):
  ∃t w',(Builtin.append_ #[154,9] r #[v,s]).run prog w=.ok t w'/\bh w' base t (d++s)/\w.grownBy w' v.ownBlock/\(t.ownBlock=v.ownBlock∨t.ownBlock=some w.1.size):=by
 obtain⟨i,p,O,q,Q⟩:=info_parts qQy;have f:Src prog i.size 9 (.string s) s.size (byteCells s) w:=by rw[q];exact Src.ofString w Tryz.underlying9 s
 have Z:(d++s).size=d.size+s.size:=qy;have W:(byteCells d).length=d.size:=byteCells_length d;have M:(byteCells s).length=s.size:=byteCells_length s;unfold bh;rw[Z,qQx];have n:(byteCells d++byteCells s).length=(d.size+s.size)*1:=by rw[qL,W,M];omega
 have grown:∀(b:Nat),b<d.size+s.size->∀(row:Option Nat),
   (w.drew.alloc (.cells ((byteCells d++byteCells s).toArray++Builtin.zeroCells (Value.int .u8 0).cells (grownCap w (d.size+s.size) b 5-(d.size+s.size))) 5)).ownsRow base 5 1
    (.slice (some ⟨w.1.size,0,none⟩) (d.size+s.size) (grownCap w (d.size+s.size) b 5)) (d.size+s.size) (byteCells d++byteCells s) /\
   w.grownBy (w.drew.alloc (.cells ((byteCells d++byteCells s).toArray++Builtin.zeroCells (Value.int .u8 0).cells (grownCap w (d.size+s.size) b 5-(d.size+s.size))) 5)) row:=by
  intro b ho row;have V:=grownCap_ge w (d.size+s.size) b 5;have z:grownCap w (d.size+s.size) b 5<=maxLen:=grownCap_le_maxLen w _ b _ (by unfold maxLen;omega);refine⟨⟨n,.inr ⟨w.1.size,_,_,rfl,R,heap_alloc_new w.drew _,V,z, ?_, ?_⟩⟩,⟨rfl,rfl,rfl,by simp,fun k A _=>Below.heap_alloc w.drew _ k A⟩⟩
  ·rw[Array.size_append,List.size_toArray,size_zeroCells,n];show(d.size+s.size)*1+(_-_)*1=_;omega
  ·rw[Array.toList_append,<-n];exact List.take_left
 rcases h.2 with⟨rfl,e⟩|⟨g,a,m,rfl,S,J,aa,z,T,X⟩
 ·by_cases B:s.size=0
  ·have y:byteCells d=[]:=List.eq_nil_of_length_eq_zero (by omega);have C:byteCells s=[]:=List.eq_nil_of_length_eq_zero (by omega);refine⟨.slice none 0 0,w, ?_,by rw[y,C,e,B];exact World.ownsRow_nil w base _ 1,⟨rfl,rfl,rfl,qK _,fun _ _ _=>rfl⟩,qX rfl⟩;have I:=f.len w;have H:=f.cells;rw[B,C]at H;rw[B]at I;simp[Builtin.append_,run_underlying Tryz.underlying154,run_underlying Tryz.underlying9,sizeOf,typeInfo,p,I,H]
  ·have o:=run_append_grow_src (P:=prog) w 154 9 r 5 i _ Tryz.underlying154 p O none 0 0 [] (by simp[Builtin.firstCells]) (.string s) s.size (byteCells s) f (by omega) (by omega) (growslice_fits (by omega) (by rw[Q];omega));have y:byteCells d=[]:=List.eq_nil_of_length_eq_zero (by omega);have l:=grown 0 (by omega) (Value.ownBlock (.slice none 0 0));rw[y,e]at l ⊢;exact⟨_,_,o,l.1,l.2,qY rfl⟩
 ·by_cases N:d.size+s.size<=a
  ·have U:d.size*i.size+(byteCells s).length<=m.size:=(by rw[M,T,q];omega);have hst:=run_storeCells_at prog g (d.size*i.size) 5 (byteCells s) 0 m w J (by simpa using U) (qQj s);simp only[Nat.add_zero]at hst
   have o:(Builtin.append_ #[154,9] r #[.slice (some ⟨g,0,none⟩) d.size a,s]).run prog w=.ok (.slice (some ⟨g,0,none⟩) (d.size+s.size) a) (w.setRow g (m.toList.take (d.size*i.size)++byteCells s++m.toList.drop (d.size*i.size+(byteCells s).length)).toArray):=by
    simp[Builtin.append_,run_underlying Tryz.underlying154,run_underlying Tryz.underlying9,sizeOf,typeInfo,p,f.len,f.cells,N,Addr.add_lit,hst]
   refine⟨_,_,o,⟨n,.inr ⟨g,a,_,rfl,S,setRow_heap w g m _ _ _ J,N,z, ?_, ?_⟩⟩,⟨rfl,rfl,rfl,by simp,fun k _ A=>setRow_other w g k _ (fun e=>A (by simp[Value.ownBlock,e]))⟩,qX rfl⟩
   ·simp only[List.size_toArray,List.length_append,List.length_take,List.length_drop,Array.length_toList];omega
   ·rw[q,X,<-n];exact List.take_left
  ·have o:=run_append_grow_src (P:=prog) w 154 9 r 5 i _ Tryz.underlying154 p O (some ⟨g,0,none⟩) d.size a (byteCells d)
    (by rw[q];exact run_firstCells_some w.drew 1 d.size ⟨g,0,none⟩ d.size a (byteCells d) (by omega) (fun j u Y=>h.cells rfl j u Y)) (.string s) s.size (byteCells s) f (by omega) (by omega) (growslice_fits (by omega) (by rw[Q];omega))
   have l:=grown a (by omega) (Value.ownBlock (.slice (some ⟨g,0,none⟩) d.size a));exact⟨_,_,o,l.1,l.2,qY rfl⟩
theorem BD(w:World)(A:Option Addr)(c:Nat):(convert 154 9 (.slice A 0 c)).run prog w=.ok (.string ByteArray.empty) w:=by
 cases A with
 | none=>exact run_convert_bytes_nil w 154 5 Tryz.underlying154 Tryz.underlying5 0 c 9 Tryz.underlying9
 | some a=>exact run_convert_bytes_back w 154 9 5 a c [] Tryz.underlying154 Tryz.underlying5 Tryz.underlying9 (fun j b=>absurd b (Nat.not_lt_zero j))
theorem qQg{b i n:Nat}(h:bh w base (.slice (some ⟨b,0,none⟩) n i) d){a k:Nat}(s:a+k<=d.size)(c:Nat):
  (convert 154 9 (.slice (some ⟨b,a,none⟩) k c)).run prog w=.ok (.string (d.extract a (a+k))) w:=by
 obtain rfl:n=d.size:=by
  rcases h.2 with⟨e,q⟩|⟨g,o,p,e,_⟩
  ·cases e
  ·simp only[Value.slice.injEq]at e;exact e.2.1
 have m:(d.extract a (a+k)).data.toList.length=k:=by
  rw[Array.length_toList];show(d.extract a (a+k)).size=k;rw[qk];omega
 have f:=run_convert_bytes_back (P:=prog) w 154 9 5 ⟨b,a,none⟩ c (d.extract a (a+k)).data.toList Tryz.underlying154 Tryz.underlying5 Tryz.underlying9
  (fun j r=>by
   have l:(⟨b,a,none⟩:Addr).add j=⟨b,a+j,none⟩:=(by unfold Addr.add;split<;>simp_all);have t:d.data.size=d.size:=rfl;rw[l,h.cellAt (a+j) (by omega),qQq,Array.getElem?_eq_getElem (by omega),Option.map_some];congr 3;rw[Array.getElem_toList];simp only[ByteArray.data_extract,Array.getElem_extract])
 rw[m]at f;exact f
end
structure Ent where
 f:jO
 b:Nat
 v:Value
def Ent.nb(x:Ent):Tw × Nat:=(x.f.name,x.b)
def Ent.blocks(x:Ent):List Nat:=x.b::x.v.ownBlock.toList
def vS(w:World)(base:Nat)(x:Ent):Prop:=jN w x.b 215 #[x.v,x.f.synced]/\base<=x.b/\bh w base x.v x.f.data
def bl(x y:Ent):Prop:=x.b≠y.b/\∀b,x.v.ownBlock=some b->y.v.ownBlock≠some b
def fN(w:World)(base:Nat)(v:Value)(l:List Int)(K:List Nat):Prop :=
 (l=[]/\K=[]/\∃a c,v=.slice a 0 c)∨(w.ownsRow base 3 1 v l.length (tV l)/\K=v.ownBlock.toList)
def bn(w:World)(base:Nat)(vF:Value)(f:Nat)(keep:List Int)(K:List Nat):Prop :=
 (f=0/\vF=.pointer none/\K=[]) ∨
 ∃(b n:Nat) (i:Value) (a:List Nat),vF=ptr b/\f=n+1/\n<=9223372036854775807/\jN w b 289 #[n,i]/\base<=b/\fN w base i (keep.take 400) a/\K=b::a
def BE(g mb:Nat)(vF:Value)(D:jL):Array Value:=#[ptr g,.int .i64 (D.cap:Nat),.map (some mb),.bool (!D.down),.int .i64 (D.count:Nat),.int .i64 (D.xB:Nat),vF]
structure PAt(w:World)(base g mb:Nat)(vF:Value)(E:List Ent)(K:List Nat)(D:jL):Prop where
 xE:jN w g 83 (BE g mb vF D)
 gb:base<=g
 zJ:base<=mb
 xN:D.l=E.map Ent.f
 map:yJ w mb (E.map Ent.nb)
 xM:∀x∈E,vS w base x
 apart:E.Pairwise bl
 xI:gA D.l
 names:∀f∈D.l,vY f.name=true
 fail:bn w base vF D.fails D.keep K
def vJ(g mb:Nat)(E:List Ent)(K:List Nat):List Nat:=g::mb::(K++E.flatMap Ent.blocks)
def bA: j6:=fun w base g F D=>∃mb vF E K,PAt w base g mb vF E K D/\F=vJ g mb E K
section
variable {w w':World}{base:Nat}{G:List Nat}
theorem vS.xC{x:Ent}(h:vS w base x)(f:jP G w w')(a:∀b∈x.blocks,b ∉ G):vS w' base x :=
 ⟨h.1.xC f (a _ (by simp[Ent.blocks])),h.2.1,cQ h.2.2 f (fun b i=>a b (by simp[Ent.blocks,i]))⟩
theorem vS.low{x:Ent}(h:vS w base x):∀b∈x.blocks,base<=b/\b<w.1.size:=by
 intro b a;simp only[Ent.blocks,List.mem_cons,Option.mem_toList]at a;rcases a with rfl|a
 ·exact⟨h.2.1,h.1.lt⟩
 ·exact h.2.2.lt b a
theorem fN.xC{v:Value}{l:List Int}{K:List Nat}(h:fN w base v l K)(i:jP G w w')(f:∀b∈K,b ∉ G):fN w' base v l K:=by
 rcases h with h|⟨h,rfl⟩
 ·exact qX h
 ·exact qY ⟨cQ h i (fun b a=>f b (by simp[a])),rfl⟩
theorem fN.low{v:Value}{l:List Int}{K:List Nat}(h:fN w base v l K):∀b∈K,base<=b/\b<w.1.size:=by
 rcases h with⟨_,rfl,_⟩|⟨h,rfl⟩
 ·intro b a;cases a
 ·intro b a;exact h.lt b (by simpa using a)
theorem bn.xC{v:Value}{n:Nat}{l:List Int}{K:List Nat}(h:bn w base v n l K)(f:jP G w w')(a:∀b∈K,b ∉ G):bn w' base v n l K:=by
 rcases h with h|⟨b,m,t,i,j,k,o,p,q,r,rfl⟩
 ·exact qX h
 ·exact qY ⟨b,m,t,i,j,k,o,p.xC f (a _ (by simp)),q,r.xC f (fun x s=>a x (by simp[s])),rfl⟩
theorem bn.low{v:Value}{n:Nat}{l:List Int}{K:List Nat}(h:bn w base v n l K):∀b∈K,base<=b/\b<w.1.size:=by
 rcases h with⟨_,_,rfl⟩|⟨b,m,s,o,p,q,r,f,i,j,rfl⟩
 ·intro b k;cases k
 ·intro x a;rcases qM.1 a with rfl|a
  ·exact⟨i,f.lt⟩
  ·exact j.low x a
variable {g mb:Nat}{vF:Value}{E:List Ent}{K:List Nat}{D:jL}
theorem yQ{b:Nat}:b∈vJ g mb E K↔b=g∨b=mb∨b∈K∨∃x∈E,b∈x.blocks:=by
 simp only[vJ,List.mem_cons,List.mem_append,List.mem_flatMap]
theorem PAt.xC(h:PAt w base g mb vF E K D)(f:jP G w w')(a:∀b∈vJ g mb E K,b ∉ G):PAt w' base g mb vF E K D :=
 ⟨h.xE.xC f (a _ (yQ.2 (qX rfl))),h.gb,h.zJ,h.xN,h.map.xC f (a _ (yQ.2 (qY (qX rfl)))),
  fun x j=>(h.xM x j).xC f (fun b i=>a b (yQ.2 (qY (qY (qY ⟨x,j,i⟩))))),h.apart,h.xI,h.names,h.fail.xC f (fun b i=>a b (yQ.2 (qY (qY (qX i)))))⟩
theorem PAt.low(h:PAt w base g mb vF E K D):∀b∈vJ g mb E K,base<=b/\b<w.1.size:=by
 intro b a;rcases yQ.1 a with rfl|rfl|a|⟨x,f,a⟩
 ·exact⟨h.gb,h.xE.lt⟩
 ·exact⟨h.zJ,h.map.lt⟩
 ·exact h.fail.low b a
 ·exact(h.xM x f).low b a
theorem PAt.at(h:PAt w base g mb vF E K D):bA w base g (vJ g mb E K) D:=⟨mb,vF,E,K,h,rfl⟩
theorem fN.ne{v:Value}{l:List Int}{b:Nat}{t:TypeId}{cs:Array Value}(h:fN w base v l K)(a:jN w b t cs)(i:3≠t):b ∉ K:=by
 rcases h with⟨_,rfl,_⟩|⟨h,rfl⟩
 ·simp
 ·intro f;exact vO h a i (by simpa using f)
theorem bn.ne{v:Value}{n:Nat}{l:List Int}{b:Nat}{t:TypeId}{cs:Array Value}(h:bn w base v n l K)(f:jN w b t cs)(k:3≠t)(o:289≠t):b ∉ K:=by
 rcases h with⟨_,_,rfl⟩|⟨q,m,z,p,r,s,u,i,y,j,rfl⟩
 ·simp
 ·intro a;rcases qM.1 a with rfl|a
  ·exact i.xe f o rfl
  ·exact j.ne f k a
theorem bn.xi{v:Value}{n:Nat}{l:List Int}{L:List (Tw × Nat)}(h:bn w base v n l K)(f:yJ w mb L):mb ∉ K:=by
 rcases h with⟨_,_,rfl⟩|⟨k,m,s,j,o,p,q,i,r,b,rfl⟩
 ·simp
 ·intro a;rcases qM.1 a with rfl|a
  ·exact f.ne i rfl
  ·rcases b with⟨_,rfl,_⟩|⟨b,rfl⟩
   ·cases a
   ·exact f.own_ne b (by simpa using a)
theorem bn.ze{v:Value}{n:Nat}{l:List Int}{base' size m:Nat}{t:TypeId}{u:Value}{xs:List Value}(h:bn w base v n l K)(j:w.ownsRow base' t size u m xs)(o:t≠3)(p:t≠289):∀b,u.ownBlock=some b->b ∉ K:=by
 intro b i a;rcases h with⟨_,_,rfl⟩|⟨r,m,B,q,s,y,z,k,A,f,rfl⟩
 ·cases a
 ·rcases qM.1 a with rfl|a
  ·exact vO j k p i
  ·rcases f with⟨_,rfl,_⟩|⟨f,rfl⟩
   ·cases a
   ·exact dF j f o b (by simpa using a) i
theorem vS.ne{x:Ent}{b:Nat}{t:TypeId}{cs:Array Value}(h:vS w base x)(f:jN w b t cs)(i:215≠t)(j:5≠t):b ∉ x.blocks:=by
 intro a;simp only[Ent.blocks,List.mem_cons,Option.mem_toList]at a;rcases a with rfl|a
 ·exact h.1.xe f i rfl
 ·exact vO h.2.2 f j a
theorem vS.xi{x:Ent}{L:List (Tw × Nat)}(h:vS w base x)(b:yJ w mb L):mb ∉ x.blocks:=by
 intro a;simp only[Ent.blocks,List.mem_cons,Option.mem_toList]at a;rcases a with rfl|a
 ·exact b.ne h.1 rfl
 ·exact b.own_ne h.2.2 a
theorem vS.apart{x y:Ent}(i:vS w base x)(j:vS w base y)(h:bl x y):∀b∈x.blocks,b ∉ y.blocks:=by
 intro b f a;simp only[Ent.blocks,List.mem_cons,Option.mem_toList]at f a;rcases f with rfl|f<;>rcases a with a|a
 ·exact h.1 a
 ·exact vO j.2.2 i.1 (by decide) a
 ·subst a;exact vO i.2.2 j.1 (by decide) f
 ·exact h.2 b f a
theorem vS.zS{x:Ent}{v:Value}{n:Nat}{l:List Int}(f:vS w base x)(h:bn w base v n l K):∀b∈x.blocks,b ∉ K:=by
 intro b a;simp only[Ent.blocks,List.mem_cons,Option.mem_toList]at a;rcases a with rfl|a
 ·exact h.ne f.1 (by decide) (by decide)
 ·exact h.ze f.2.2 (by decide) (by decide) b a
theorem PAt.zV(h:PAt w base g mb vF E K D){D':jL}{k:Value}{m:List Nat}(f:D'.l=D.l)(a:jN w' g 83 (BE g mb k D'))(o:jP G w w')(n:∀b∈G,b=g∨b∈K)(p:bn w' base k D'.fails D'.keep m):PAt w' base g mb k E m D':=by
 refine⟨a,h.gb,h.zJ,by rw[f];exact h.xN,h.map.xC o (fun i=>?_),fun x j=>(h.xM x j).xC o (fun b a i=>?_),h.apart,by rw[f];exact h.xI,by rw[f];exact h.names,p⟩
 ·rcases n _ i with e|e
  ·exact h.map.ne h.xE e
  ·exact h.fail.xi h.map e
 ·rcases n _ i with e|e
  ·exact(h.xM x j).ne h.xE (by decide) (by decide) (by rw[<-e];exact a)
  ·exact(h.xM x j).zS h.fail b a e
theorem PAt.zk(h:PAt w base g mb vF E K D)(i:jP [g] w w'):bn w' base vF D.fails D.keep K :=
 h.fail.xC i (fun b a f=>by
  obtain rfl:b=g:=by simpa using f
  exact h.fail.ne h.xE (by decide) (by decide) a)
theorem PAt.z7(h:PAt w base g mb vF E K D)(c:Bool):PAt (w.setCell ⟨g,3,none⟩ (.bool (!c))) base g mb vF E K { D with down:=c } :=
 h.zV (G:=[g]) rfl (h.xE.put 3 _) ((jP.refl _ w).setCell (qX (by simp)) _) (fun b a=>qX (by simpa using a)) (h.zk ((jP.refl _ w).setCell (qX (by simp)) _))
theorem PAt.jW(h:PAt w base g mb vF E K D)(c:Nat):PAt (w.setCell ⟨g,4,none⟩ (.int .i64 (c:Nat))) base g mb vF E K { D with count:=c } :=
 h.zV (G:=[g]) rfl (h.xE.put 4 _) ((jP.refl _ w).setCell (qX (by simp)) _) (fun b a=>qX (by simpa using a)) (h.zk ((jP.refl _ w).setCell (qX (by simp)) _))
theorem PAt.jZ(h:PAt w base g mb vF E K D)(l:List Int):PAt (w.setCell ⟨g,6,none⟩ (.pointer none)) base g mb (.pointer none) E [] { D with fails:=0,keep:=l } :=
 h.zV (G:=[g]) rfl (h.xE.put 6 _) ((jP.refl _ w).setCell (qX (by simp)) _) (fun b a=>qX (by simpa using a)) (qX ⟨rfl,rfl,rfl⟩)
theorem PAt.zM(h:PAt w base g mb vF E K D){k:Nat}{x:Ent}(r:E[k]? = some x)(x':Ent)(q:x'.b=x.b)(Q:x'.f.name=x.f.name)(H:jP G w w')(A:∀b∈G,b∈x.blocks)(T:vS w' base x')
  (hv:∀b,x'.v.ownBlock=some b->x.v.ownBlock=some b∨w.1.size<=b):PAt w' base g mb vF (E.set k x') K { D with l:=D.l.set k x'.f }:=by
 have hx:=qN r;have s:=(qO.1 r).1;have B:=h.xM x hx
 have Z:(E.set k x').map Ent.nb=E.map Ent.nb:=by
  rw[List.map_set];apply xJ;intro j;rw[List.getElem?_set];by_cases e:k=j
  ·subst e;rw[qV rfl,qV (by simpa using s),qv,r];show some (x'.f.name,x'.b)=some (x.f.name,x.b);rw[q,Q]
  ·rw[qZ e]
 have O:∀(j:Nat) (y:Ent),j≠k->E[j]? = some y->(∀b∈x.blocks,b ∉ y.blocks)/\bl x' y/\bl y x':=by
  intro j y m t;have P:=h.xM y (qN t);have N:=(qO.1 t).1;have C:=xY.1 h.apart;have u:E[k]=x:=by rw[qE s]at r;simpa using r
  have z:E[j]=y:=by rw[qE N]at t;simpa using t
  have I:bl x y:=by
   rcases qd k j with c|c
   ·have:=C k j s N c;rw[u,z]at this;exact this
   ·have:=C j k N s (by omega);rw[u,z]at this;exact⟨fun e=>this.1 e.symm,fun b n p=>this.2 b p n⟩
  have J:bl x' y:=⟨by rw[q];exact I.1,fun b n p=>by
   rcases hv b n with c|c
   ·exact I.2 b c p
   ·have:=(P.2.2.lt b p).2;omega⟩
  exact⟨B.apart P I,J,⟨fun e=>J.1 e.symm,fun b n p=>J.2 b p n⟩⟩
 have W:g ∉ x.blocks:=B.ne h.xE (by decide) (by decide)
 have Y:∀(j:Nat),((D.l.set k x'.f)[j]?).map jO.name=(D.l[j]?).map jO.name:=by
  intro j;rw[List.getElem?_set];by_cases e:k=j
  ·subst e;rw[qV rfl,qV (by rw[h.xN];simpa using s),h.xN,qv,r];simp[Q]
  ·rw[qZ e]
 have R:(D.l.set k x'.f).map jO.name=D.l.map jO.name:=by
  apply xJ;intro j;rw[qv,qv];exact Y j
 refine⟨h.xE.xC H (fun o=>W (A _ o)),h.gb,h.zJ,by show D.l.set k x'.f=_;rw[h.xN,List.map_set], ?_,fun y t=>?_, ?_, ?_, ?_,h.fail.xC H (fun b q o=>B.zS h.fail b (A b o) q)⟩
 ·rw[Z];exact h.map.xC H (fun o=>B.xi h.map (A _ o))
 ·obtain⟨j,m⟩:=ql t;rw[List.getElem?_set]at m;by_cases e:k=j
  ·rw[qV e,qV s]at m;obtain rfl:x'=y:=(by simpa using m);exact T
  ·rw[qZ e]at m;exact(h.xM y (qN m)).xC H (fun b q o=>(O j y (fun c=>e c.symm) m).1 b (A b o) q)
 ·rw[xY];intro i j M m X;rw[List.length_set]at M m;rw[List.getElem_set,List.getElem_set];have C:=xY.1 h.apart i j M m X;by_cases u:k=i
  ·rw[qV u,qZ (by omega)];exact(O j _ (by omega) (qE m)).2.1
  ·rw[qZ u];by_cases z:k=j
   ·rw[qV z];exact(O i _ (by omega) (qE M)).2.2
   ·rw[qZ z];exact C
 ·show gA (D.l.set k x'.f);have:(D.l.map jO.name).Pairwise (fun a b=>vT a b=true):=List.pairwise_map.2 h.xI;rw[<-R]at this;exact List.pairwise_map.1 this
 ·intro f U;have n:f.name∈(D.l.set k x'.f).map jO.name:=qP.2 ⟨f,U,rfl⟩;rw[R]at n;obtain⟨S,V,e⟩:=qP.1 n;rw[<-e];exact h.names S V
theorem PAt.zF(h:PAt w base g mb vF E K D)(E':List Ent)(l:List jO)(p:l=E'.map Ent.f)(a:yJ w' mb (E'.map Ent.nb))(j:jP [mb] w w')(k:∀x∈E',vS w base x)(n:E'.Pairwise bl)(r:gA l)(q:∀f∈l,vY f.name=true):PAt w' base g mb vF E' K { D with l:=l }:=by
 refine⟨h.xE.xC j (fun o=>h.map.ne h.xE (by have:=qH.1 o;exact this.symm)),h.gb,h.zJ,p,a,fun x m=>(k x m).xC j (fun b i a=>?_),n,r,q,h.fail.xC j (fun b i a=>?_)⟩
 ·obtain rfl:b=mb:=by simpa using a
  exact(k x m).xi h.map i
 ·obtain rfl:b=mb:=by simpa using a
  exact h.fail.xi h.map i
end
def ur(chs:List (List Tw)):List Tw:=chs.getLast?.getD []
def kz(chs:List (List Tw)):Nat:=if chs.length=0 then 0 else 4096*(chs.length-1)+(12+kR (ur chs))
def jR(i:Nat):List (List Tw)->List (Nat × Tw)
 | []=>[]
 | ps::r=>yx (4096*i+12) ps++jR (i+1) r
theorem oh: ∀(a b:List (List Tw)) (i:Nat),jR i (a++b)=jR i a++jR (i+a.length) b
 | [],b,i=>rfl
 | x::a,b,i=>by
   show yx _ x++jR (i+1) (a++b)=yx _ x++jR (i+1) a++_;rw[oh a b (i+1),qh,qu,show i+1+a.length=i+(a.length+1) by omega]
theorem sZ(i:Nat)(a:List Tw):jR i [a]=yx (4096*i+12) a:=by show yx _ a++[]=_;rw[List.append_nil]
theorem Jv{i j:Nat}(hi:i<=999999)(a:j<=999999)(h:nmC i=nmC j):i=j:=by
 have:=Mg 99 hi a;rw[show nmS 99 (i:Nat)=nmS 99 (j:Nat) from h]at this;simp at this;omega
theorem BF{i:Nat}(h:i<=999999):nmC i≠jo:=fun e=>by
 have a:=oE (c:=99) h;rw[show nmS 99 (i:Nat)=jo from e]at a;exact absurd a (by decide)
theorem mF{i:Nat}(h:i<=999999):isC (nmC i)=true/\npN (nmC i)=i:=by
 obtain⟨a,b,c⟩:=Xi (c:=99) (by decide) h;exact⟨by unfold isC;rw[a,b];rfl,c⟩
theorem qQb{i:Nat}(h:i<=999999):vY (nmC i)=true:=by
 unfold vY;rw[oE h];decide
structure ku(D:jL)(chs:List (List Tw)):Prop where
 up:D.down=false
 fails:D.fails=0
 many:chs.length<=200
 files:∀i ps,chs[i]? = some ps->∃f,jT D.l (nmC i)=some f/\f.data=bz i ps
 small:∀ps∈chs,12+kR ps<=4096/\∀p∈ps,p.size<=2000
 only:∀f∈D.l,isC f.name=true->∃i,i<chs.length/\f.name=nmC i
 zW:jT D.l jo=none
structure uV(D:jL)(L:jq)(chs:List (List Tw)):Prop where
 xB:D.xB=L.xB
 x5:L.chunks=chs.length
 endp:L.endp=kz chs
 sure:L.sure<=L.endp
structure vM(D E:jL):Prop where
 names:E.l.map jO.name=D.l.map jO.name
 data:∀m,(jT E.l m).map jO.data=(jT D.l m).map jO.data
 used:j4 E.l=j4 D.l
 cap:E.cap=D.cap
 xB:E.xB=D.xB
 down:E.down=D.down
 fails:E.fails=D.fails
theorem vM.refl(D:jL):vM D D:=⟨rfl,fun _=>rfl,rfl,rfl,rfl,rfl,rfl⟩
theorem vM.trans{A B C:jL}(h:vM A B)(k:vM B C):vM A C:=⟨k.names.trans h.names,fun m=>(k.data m).trans (h.data m),k.used.trans h.used,k.cap.trans h.cap,k.xB.trans h.xB,k.down.trans h.down,k.fails.trans h.fails⟩
theorem vM.count(D:jL)(c:Nat):vM D { D with count:=c }:=⟨rfl,fun _=>rfl,rfl,rfl,rfl,rfl,rfl⟩
theorem vM.length{D E:jL}(h:vM D E):E.l.length=D.l.length:=by have:=congrArg List.length h.names;simpa using this
theorem vM.none{D E:jL}(h:vM D E)(m:Tw):jT E.l m=none↔jT D.l m=none:=by
 have:=h.data m;cases a:jT E.l m<;>cases b:jT D.l m<;>simp_all
theorem vM.synced(D:jL)(n:Tw):vM D { D with l:=kq D.l (jx D.l n) (fun f=>{ f with synced:=f.data.size }) }:=by
 refine⟨ma (fun f=>{ f with synced:=f.data.size }) (fun _=>rfl) _ _,fun m=>?_,VS (fun f=>{ f with synced:=f.data.size }) (fun _=>rfl),rfl,rfl,rfl,rfl⟩;show(jT (kq D.l (jx D.l n) _) m).map _=_;rw[oG (fun f=>{ f with synced:=f.data.size }) (fun _=>rfl)];split
 ·rename_i e;rw[e];cases jT D.l n<;>rfl
 ·rfl
theorem Q7{l:List jO}{f:jO}(h:f∈l):f.name∈l.map jO.name:=qP.2 ⟨f,h,rfl⟩
theorem ku.same{D E:jL}{chs:List (List Tw)}(g:ku D chs)(h:vM D E):ku E chs:=by
 refine⟨h.down.trans g.up,h.fails.trans g.fails,g.many,fun i q p=>?_,g.small,fun f n j=>?_,(h.none _).2 g.zW⟩
 ·obtain⟨f,k,m⟩:=g.files i q p;have:=h.data (nmC i);rw[k]at this;cases b:jT E.l (nmC i) with
  | none=>rw[b]at this;cases this
  | some a =>
    rw[b]at this;exact⟨a,rfl,by have e:a.data=f.data:=(by simpa using this);rw[e,m]⟩
 ·have:=Q7 n;rw[h.names]at this;obtain⟨a,o,e⟩:=qP.1 this;rw[<-e]at j ⊢;exact g.only a o j
section
variable {D:jL}{L:jq}{chs:List (List Tw)}
theorem nP(g:ku D chs)(gl:uV D L chs):vu D L=0:=by
 unfold vu;rw[qZ (by simp[g.up]),qV gl.xB]
theorem sJ(g:ku D chs)(h:0<chs.length):∃f,jT D.l (nmC (chs.length-1))=some f/\f.data=bz (chs.length-1) (ur chs)/\f.data.size=12+kR (ur chs)/\12+kR (ur chs)<=4096:=by
 have b:chs[chs.length-1]? = some (ur chs):=by
  unfold ur;rw[List.getLast?_eq_getElem?];rw[qE (by omega)];rfl
 obtain⟨f,i,a⟩:=g.files _ _ b;have j:=g.many;exact⟨f,i,a,by rw[a,tr (by omega)],(g.small _ (qN b)).1⟩
theorem BH(g:ku D chs)(gl:uV D L chs):∃E,v7 D L=(0,E, { L with sure:=L.endp })/\vM D E/\E.count=D.count:=by
 unfold v7;rw[gl.x5];by_cases a:chs.length=0
 ·rw[qV a];exact⟨D,rfl,vM.refl D,rfl⟩
 ·rw[qZ a];obtain⟨f,b,_⟩:=sJ g (by omega);rw[Xb g.up g.fails b,qV rfl];exact⟨_,rfl,vM.synced D _,rfl⟩
theorem qQc(g:ku D chs)(gl:uV D L chs):∃E,yA D L=(0,E, { L with sure:=L.endp })/\vM D E/\E.count=D.count:=by
 unfold yA;rw[qZ (by simp[nP g gl])];exact BH g gl
theorem lE(a:List (List Tw))(x:List Tw):ur (a++[x])=x:=by unfold ur;simp
theorem Q8(a:List (List Tw))(x:List Tw):kz (a++[x])=4096*a.length+(12+kR x):=by
 unfold kz;rw[qL,lE,qZ (by simp)];simp
theorem Jy(h:0<chs.length):∃a x,chs=a++[x]:=by
 have b:chs≠[]:=by intro e;rw[e]at h;simp at h
 exact⟨chs.dropLast,chs.getLast b,(List.dropLast_concat_getLast b).symm⟩
def bB(chs:List (List Tw))(p:Tw):Bool:=decide (0<chs.length/\12+kR (ur chs)+(p.size+12)<=4096)
def plQ(chs:List (List Tw))(p:Tw):Nat:=if bB chs p=true then 4096*(chs.length-1)+(12+kR (ur chs)) else 4096*chs.length+12
def plC(chs:List (List Tw))(p:Tw):List (List Tw):=if bB chs p=true then chs.dropLast++[ur chs++[p]] else chs++[[p]]
structure mH(D:jL)(L:jq)(chs:List (List Tw))(p:Tw)(q:Nat)(E:jL)(M:jq)(chs':List (List Tw)):Prop where
 xF:ku E chs'
 log:uV E M chs'
 all:jR 0 chs'=jR 0 chs++[(q,p)]
 endp:M.endp=q+(p.size+12)
 behind:L.endp<=q
 sure:M.sure<=q
 cap:E.cap=D.cap
 count:E.count=D.count
 length:E.l.length+chs.length=D.l.length+chs'.length
 used:j4 E.l<=j4 D.l+(p.size+24)
 room:j4 E.l+6000<=D.cap
 jB:chs'.length<=chs.length+1
 place:q=plQ chs p
 chunks:chs'=plC chs p
 sureEq:M.sure=if bB chs p=true then L.sure else L.endp
 others:∀k,isC k=false->(jT E.l k).map jO.data=(jT D.l k).map jO.data
 names:∀k∈E.l.map jO.name,k∈D.l.map jO.name∨∃i,i<chs'.length/\k=nmC i
theorem BI{a:List (List Tw)}{x:List Tw}(g:ku D (a++[x])):∃f,jT D.l (nmC a.length)=some f/\f.data=bz a.length x/\f.data.size=12+kR x/\12+kR x<=4096/\a.length<=199:=by
 obtain⟨f,i,b,j,k⟩:=sJ g (by simp);rw[lE]at b j k;rw[qL,List.length_singleton,Nat.add_sub_cancel]at i b;have:=g.many;rw[qL,List.length_singleton]at this;exact⟨f,i,b,j,k,by omega⟩
theorem BN{a:List (List Tw)}{x:List Tw}(g:ku D (a++[x]))(gl:uV D L (a++[x]))(p:Tw)(Y:p.size<=2000)(t:12+kR x+(p.size+12)<=4096)(hr:j4 D.l+(p.size+12)+6000<=D.cap):
  ∃q E M Q,uS D L p=(q,0,E,M)/\mH D L (a++[x]) p q E M Q:=by
 obtain⟨f,r,R,S,h4,h5⟩:=BI g;have hm:=g.many;have O:=me g.up r;rw[S]at O;have I:L.chunks=a.length+1:=by rw[gl.x5];simp
 have X:ftS ((12+kR x:Nat):Int) p=true:=by unfold ftS;exact qB (by omega)
 have V:uA D L p=(a.length,12+kR x,0):=by
  unfold uA;rw[I,qZ (by omega),Nat.add_sub_cancel,O,qV rfl,qV X]
 have aa:gG D (jj p)=true:=by unfold gG;rw[gU];exact qB (by omega)
 have W:=Xc (s:=jj p) g.up g.fails r (by rw[gU];omega)
 have U:onD (fun E=>uR E L (jj p)) D L=(0,uO D (nmC a.length) (jj p),L):=by
  show((uR D L (jj p)).1,(uR D L (jj p)).2,L)=_;unfold uR;rw[qZ (by rw[aa];decide),I,Nat.add_sub_cancel,W]
 have T:uS D L p=(4096*a.length+(12+kR x),0,uO D (nmC a.length) (jj p), { L with chunks:=a.length+1,endp:=4096*a.length+(12+kR x)+(jj p).size }):=by
  unfold uS;rw[qZ (by simp[nP g gl]),qZ (by omega),V];dsimp only;rw[qZ (by simp),qZ (show ¬a.length=L.chunks by omega),U];rfl
 have u:∀m,jT (uO D (nmC a.length) (jj p)).l m=if m=nmC a.length then some { f with data:=f.data++jj p } else jT D.l m:=by
  intro m;show jT (kq D.l (jx D.l (nmC a.length)) (fun f=>{ f with data:=f.data++jj p })) m=_;rw[oG (fun f=>{ f with data:=f.data++jj p }) (fun _=>rfl),r];rfl
 have B:(uO D (nmC a.length) (jj p)).l.map jO.name=D.l.map jO.name:=ma (fun f=>{ f with data:=f.data++jj p }) (fun _=>rfl) _ _
 have ae:j4 (uO D (nmC a.length) (jj p)).l=j4 D.l+(p.size+12):=by
  have b:=fY D.l (nmC a.length);rw[r]at b;have:=oJ D.l _ f (fun f=>{ f with data:=f.data++jj p }) b;rw[show(({ f with data:=f.data++jj p }:jO)).data.size=f.data.size+(p.size+12) by show(f.data++jj p).size=_;rw[qy,gU]]at this;show j4 (kq D.l _ _)=_;omega
 have ab:L.endp=4096*a.length+(12+kR x):=by rw[gl.endp,Q8]
 have ac:(uO D (nmC a.length) (jj p)).l.length=D.l.length:=by
  have:=congrArg List.length B;simpa using this
 have ad:=gl.sure;refine⟨_,_,_,a++[x++[p]],T, ?_⟩;have A:(a++[x++[p]]).length=a.length+1:=by simp
 have N:(a++[x]).length=a.length+1:=by simp
 refine⟨⟨g.up,g.fails,by omega,fun i o n=>?_,fun o Z=>?_,fun y C H=>?_, ?_⟩,⟨gl.xB, ?_, ?_, ?_⟩, ?_, ?_, ?_, ?_,rfl,rfl,by omega,by omega,by omega,by omega, ?_, ?_, ?_, ?_, ?_⟩
 ·rw[u];by_cases e:i=a.length
  ·subst e;rw[qV rfl];rw[List.getElem?_append_right (qK _),Nat.sub_self]at n;obtain rfl:x++[p]=o:=(by simpa using n);refine⟨_,rfl, ?_⟩;show f.data++jj p=_;rw[R];exact(Yu _ _ _).symm
  ·have J:i<a.length:=by
    have:=(qO.1 n).1;rw[A]at this;omega
   rw[qZ (fun q=>e (Jv (by omega) (by omega) q))];rw[List.getElem?_append_left J]at n;exact g.files i o (by rw[List.getElem?_append_left J];exact n)
 ·rcases qD.1 Z with h|h
  ·exact g.small o (qW _ h)
  ·obtain rfl:o=x++[p]:=(by simpa using h);have hs:=g.small x (qJ _ (qH.2 rfl));refine⟨by rw[tf];omega,fun y C=>?_⟩;rcases qD.1 C with h|h
   ·exact hs.2 y h
   ·obtain rfl:y=p:=(by simpa using h);exact Y
 ·have P:=Q7 C;rw[B]at P;obtain⟨z,hz,e⟩:=qP.1 P;rw[<-e]at H ⊢;rw[A,<-N];exact g.only z hz H
 ·rw[u,qZ (fun q=>BF (by omega) q.symm)];exact g.zW
 ·rw[A]
 ·rw[Q8,tf,gU];show 4096*a.length+(12+kR x)+(p.size+12)=_;omega
 ·show L.sure<=4096*a.length+(12+kR x)+(jj p).size;omega
 ·rw[oh,oh,sZ,sZ,ZN,<-qh,qe];rw[show 4096*a.length+12+kR x=4096*a.length+(12+kR x) by omega]
 ·show 4096*a.length+(12+kR x)+(jj p).size=_;rw[gU]
 ·omega
 ·show L.sure<=_;omega
 ·have j:bB (a++[x]) p=true:=by unfold bB;rw[lE];exact qB ⟨by omega,t⟩
  unfold plQ;rw[qV j,lE,N,Nat.add_sub_cancel]
 ·have j:bB (a++[x]) p=true:=by unfold bB;rw[lE];exact qB ⟨by omega,t⟩
  unfold plC;rw[qV j,lE,List.dropLast_concat]
 ·have j:bB (a++[x]) p=true:=by unfold bB;rw[lE];exact qB ⟨by omega,t⟩
  rw[qV j]
 ·intro k b;rw[u,qZ (fun e=>by rw[e,(mF (i:=a.length) (by omega)).1]at b;cases b)]
 ·intro k b;rw[B]at b;exact qX b
end
theorem BR(D:jL)(L:jq)(f:jL->jq->Nat × jL × jq):uX (0,D,L) f=f D L:=rfl
theorem BS{f:jL->Nat × jL}{D E:jL}{L:jq}{k:jL->jq->Nat × jL × jq}(h:f D=(0,E)):uX (onD f D L) k=k E L:=by simp[uX,onD,h]
section
variable {D:jL}{L:jq}{chs:List (List Tw)}
theorem qQd(g:ku D chs)(h:chs.length<=199):jT D.l (nmC chs.length)=none:=by
 rw[fi];intro f b e;obtain⟨i,j,a⟩:=g.only f b (by rw[e];exact(mF (by omega)).1);rw[e]at a;have:=Jv (by omega) (by omega) a;omega
theorem qQf{n:Nat}{p:Tw}(a:p.size<=2000)(h:¬(n+(p.size+12)<=4096)):ftS (n:Nat) p=false:=by unfold ftS;exact qA (by omega)
theorem BT(g:ku D chs)(gl:uV D L chs)(p:Tw)(k:p.size<=2000)(j:0<chs.length->¬12+kR (ur chs)+(p.size+12)<=4096):uA D L p=(chs.length,12,0):=by
 unfold uA;rw[gl.x5];by_cases a:chs.length=0
 ·rw[qV a,a]
 ·rw[qZ a];obtain⟨f,b,m,i,n⟩:=sJ g (by omega);have l:=me g.up b;rw[l,qV rfl,i]
  rw[qZ (by
   rw[qQf k (by have:=j (by omega);omega)];decide)]
theorem qQh(g:ku D chs)(gl:uV D L chs)(p:Tw)(f:p.size<=2000)(b:0<chs.length->¬12+kR (ur chs)+(p.size+12)<=4096)(i:200<=chs.length∨gG D (hdS (chs.length:Nat)++jj p)=false):uS D L p=(0,60,D,L):=by
 unfold uS;rw[qZ (by simp[nP g gl]),qZ (by omega),BT g gl p f b];dsimp only;rw[qZ (by simp),qV gl.x5.symm]
 have a:cJ D L (jj p)=(60,D,L):=by
  unfold cJ;rw[gl.x5,qV i]
 rw[a];rfl
theorem qQl{a:List (List Tw)}{x:List Tw}(g:ku D (a++[x]))(gl:uV D L (a++[x]))(p:Tw)(u:p.size<=2000)(t:12+kR x+(p.size+12)<=4096)(o:gG D (jj p)=false):uS D L p=(0,60,D,L):=by
 obtain⟨f,i,q,j,r,s⟩:=BI g;have b:=me g.up i;rw[j]at b;have m:L.chunks=a.length+1:=by rw[gl.x5];simp
 have n:ftS ((12+kR x:Nat):Int) p=true:=by unfold ftS;exact qB (by omega)
 have l:uA D L p=(a.length,12+kR x,0):=by
  unfold uA;rw[m,qZ (by omega),Nat.add_sub_cancel,b,qV rfl,qV n]
 have k:onD (fun E=>uR E L (jj p)) D L=(60,D,L):=by
  show((uR D L (jj p)).1,(uR D L (jj p)).2,L)=_;unfold uR;rw[qV o]
 unfold uS;rw[qZ (by simp[nP g gl]),qZ (by omega),l];dsimp only;rw[qZ (by simp),qZ (show ¬a.length=L.chunks by omega),k];rfl
theorem B8(g:ku D chs)(gl:uV D L chs)(p:Tw)(W:p.size<=2000)(J:0<chs.length->¬12+kR (ur chs)+(p.size+12)<=4096)(hm:D.l.length<400)(S:chs.length<=199)(hr:j4 D.l+(p.size+24)+6000<=D.cap):
  ∃q E M Y,uS D L p=(q,0,E,M)/\mH D L chs p q E M Y:=by
 obtain⟨a,af,r,ag⟩:=BH g gl;have o:=g.same r;have j:(hdS (chs.length:Nat)++jj p).size=p.size+24:=by rw[qy,lX S,gU];omega
 have ae:gG D (hdS (chs.length:Nat)++jj p)=true:=by unfold gG;rw[j];exact qB (by omega)
 have V:=qQd o S;have aa:=VT o.up o.fails (qQb (i:=chs.length) (by omega)) V (by rw[r.length];exact hm);have N:=fun m=>Xg (l:=a.l) (f:=⟨nmC chs.length,ByteArray.empty,0⟩) V m
 have T:=Xc (D:={ a with l:=kO a.l ⟨nmC chs.length,ByteArray.empty,0⟩ }) (n:=nmC chs.length) (s:=hdS (chs.length:Nat)++jj p) (f:=⟨nmC chs.length,ByteArray.empty,0⟩) o.up o.fails (by
   show jT (kO a.l _) _=_;rw[N,qV rfl]) (by
   show j4 (kO a.l _)+_<=a.cap;rw[oY,j,r.used,r.cap];show j4 D.l+0+_<=_;omega)
 obtain⟨b,B⟩:∃b,b=uO { a with l:=kO a.l ⟨nmC chs.length,ByteArray.empty,0⟩ } (nmC chs.length) (hdS (chs.length:Nat)++jj p):=⟨_,rfl⟩
 rw[<-B]at T
 have hB:cJ D L (jj p)=(0,b, { L with sure:=L.endp }):=by
  unfold cJ;rw[gl.x5,qZ (by rw[ae];simp;omega),af,BR,BS aa];show((jr _ _ _).1,(jr _ _ _).2,_)=_;rw[T,gl.x5]
 have hA:uS D L p=(4096*chs.length+12,0,b, { L with sure:=L.endp,chunks:=chs.length+1,endp:=4096*chs.length+12+(jj p).size }):=by
  unfold uS;rw[qZ (by simp[nP g gl]),qZ (by omega),BT g gl p W J];dsimp only;rw[qZ (by simp),qV gl.x5.symm,hB];rfl
 have O:∀m,jT b.l m=if m=nmC chs.length then some ⟨nmC chs.length,hdS (chs.length:Nat)++jj p,0⟩ else jT a.l m:=by
  intro m;rw[B];show jT (kq (kO a.l ⟨nmC chs.length,ByteArray.empty,0⟩) (jx (kO a.l ⟨nmC chs.length,ByteArray.empty,0⟩) (nmC chs.length)) (fun f=>{ f with data:=f.data++(hdS (chs.length:Nat)++jj p) })) m=_;rw[oG (fun f=>{ f with data:=f.data++(hdS (chs.length:Nat)++jj p) }) (fun _=>rfl),N,qV rfl,N];by_cases e:m=nmC chs.length
  ·rw[qV e,qV e];show some (⟨nmC chs.length,ByteArray.empty++(hdS (chs.length:Nat)++jj p),0⟩:jO)=_;rw[ByteArray.empty_append]
  ·rw[qZ e,qZ e,qZ e]
 have Q:b.l.map jO.name=(kO a.l ⟨nmC chs.length,ByteArray.empty,0⟩).map jO.name:=by
  rw[B];exact ma (fun f=>{ f with data:=f.data++(hdS (chs.length:Nat)++jj p) }) (fun _=>rfl) _ _
 have ak:j4 b.l=j4 D.l+(p.size+24):=by
  have t:=fY (kO a.l ⟨nmC chs.length,ByteArray.empty,0⟩) (nmC chs.length);rw[N,qV rfl]at t;have A:=oJ _ _ _ (fun f=>{ f with data:=f.data++(hdS (chs.length:Nat)++jj p) }) t;rw[oY,r.used]at A;have e:(ByteArray.empty++(hdS (chs.length:Nat)++jj p)).size=p.size+24:=by rw[ByteArray.empty_append,j]
  rw[B];show j4 (kq _ _ _)=_;have h2:j4 (kq (kO a.l ⟨nmC chs.length,ByteArray.empty,0⟩) (jx (kO a.l ⟨nmC chs.length,ByteArray.empty,0⟩) (nmC chs.length)) (fun f=>{ f with data:=f.data++(hdS (chs.length:Nat)++jj p) }))+0=j4 D.l+0+(ByteArray.empty++(hdS (chs.length:Nat)++jj p)).size:=A;rw[e]at h2;omega
 have ai:b.l.length=D.l.length+1:=by
  have A:=congrArg List.length Q;rw[qq,qq,pt,r.length]at A;exact A
 have aj:=g.many;have ab:=gl.endp
 have ah:L.endp<=4096*chs.length:=by
  rw[ab];unfold kz;split
  ·omega
  ·obtain⟨f,_,_,_,h4⟩:=sJ g (by omega);omega
 have C:b.cap=D.cap/\b.count=D.count/\b.xB=D.xB/\b.down=false/\b.fails=0:=by
  rw[B];exact⟨r.cap,ag,r.xB,o.up,o.fails⟩
 refine⟨_,_,_,chs++[[p]],hA, ?_⟩;have P:(chs++[[p]]).length=chs.length+1:=by simp
 refine⟨⟨C.2.2.2.1,C.2.2.2.2,by omega,fun i I u=>?_,fun I ad=>?_,fun y R U=>?_, ?_⟩,⟨C.2.2.1.trans gl.xB, ?_, ?_, ?_⟩, ?_, ?_, ?_, ?_,C.1,C.2.1,by omega,by omega,by omega,by omega, ?_, ?_, ?_, ?_, ?_⟩
 ·rw[O];by_cases e:i=chs.length
  ·subst e;rw[qV rfl];rw[List.getElem?_append_right (qK _),Nat.sub_self]at u;obtain rfl:[p]=I:=(by simpa using u);exact⟨_,rfl,rfl⟩
  ·have ac:i<chs.length:=by
    have:=(qO.1 u).1;rw[P]at this;omega
   rw[qZ (fun q=>e (Jv (by omega) (by omega) q))];rw[List.getElem?_append_left ac]at u;exact o.files i I u
 ·rcases qD.1 ad with h|h
  ·exact g.small I h
  ·obtain rfl:I=[p]:=(by simpa using h);refine⟨by show 12+(p.size+12+0)<=4096;omega,fun y R=>?_⟩;obtain rfl:y=p:=(by simpa using R);exact W
 ·have X:=Q7 R;rw[Q]at X;obtain⟨z,j,e⟩:=qP.1 X;rw[<-e]at U ⊢;rw[P];rcases mn j with j|rfl
  ·obtain⟨i,u,Z⟩:=o.only z j U;exact⟨i,by omega,Z⟩
  ·exact⟨chs.length,by omega,rfl⟩
 ·rw[O,qZ (fun q=>BF (by omega) q.symm)];exact o.zW
 ·rw[P]
 ·rw[Q8,gU];show 4096*chs.length+12+(p.size+12)=4096*chs.length+(12+(p.size+12+0))
  omega
 ·show L.endp<=4096*chs.length+12+(jj p).size;omega
 ·rw[oh,sZ,qe];rfl
 ·show 4096*chs.length+12+(jj p).size=_;rw[gU]
 ·omega
 ·show L.endp<=_;omega
 ·have H:bB chs p=false:=by unfold bB;exact qA (fun h=>J h.1 h.2)
  unfold plQ;rw[qZ (by simp[H])]
 ·have H:bB chs p=false:=by unfold bB;exact qA (fun h=>J h.1 h.2)
  unfold plC;rw[qZ (by simp[H])]
 ·have H:bB chs p=false:=by unfold bB;exact qA (fun h=>J h.1 h.2)
  rw[qZ (by simp[H])]
 ·intro k t;rw[O,qZ (fun e=>by rw[e,(mF (i:=chs.length) (by omega)).1]at t;cases t)];exact r.data k
 ·intro k t;rw[Q]at t;obtain⟨z,j,e⟩:=qP.1 t;rcases mn j with j|rfl
  ·refine qX ?_;rw[<-r.names];exact qP.2 ⟨z,j,e⟩
  ·exact qY ⟨chs.length,by omega,e.symm⟩
theorem qQm(g:ku D chs)(gl:uV D L chs)(p:Tw)(i:p.size<=2000)(s:D.l.length<400):uS D L p=(0,60,D,L)∨∃q E M n,uS D L p=(q,0,E,M)/\mH D L chs p q E M n:=by
 by_cases f:0<chs.length/\12+kR (ur chs)+(p.size+12)<=4096
 ·obtain⟨a,x,rfl⟩:=Jy f.1;rw[lE]at f;cases b:gG D (jj p)
  ·exact qX (qQl g gl p i f.2 b)
  ·refine qY (BN g gl p i f.2 ?_);unfold gG at b;rw[gU,decide_eq_true_eq]at b;omega
 ·have k:0<chs.length->¬12+kR (ur chs)+(p.size+12)<=4096:=fun o r=>f ⟨o,r⟩
  by_cases m:200<=chs.length∨gG D (hdS (chs.length:Nat)++jj p)=false
  ·exact qX (qQh g gl p i k m)
  ·have j:chs.length<=199:=(by omega);refine qY (B8 g gl p i k s j ?_)
   have b:gG D (hdS (chs.length:Nat)++jj p)=true:=by
    cases h:gG D (hdS (chs.length:Nat)++jj p)
    ·exact absurd (qY h) m
    ·rfl
   unfold gG at b;rw[qy,lX j,gU,decide_eq_true_eq]at b;omega
theorem qQn(g:ku D chs)(gl:uV D L chs)(p:Tw)(f:p.size<=2000)(n:D.l.length<400)(k:chs.length<=199)(o:j4 D.l+(p.size+24)+6000<=D.cap):∃q E M i,uS D L p=(q,0,E,M)/\mH D L chs p q E M i:=by
 by_cases b:0<chs.length/\12+kR (ur chs)+(p.size+12)<=4096
 ·obtain⟨a,x,rfl⟩:=Jy b.1;rw[lE]at b;exact BN g gl p f b.2 (by omega)
 ·exact B8 g gl p f (fun j m=>b ⟨j,m⟩) n k o
end
theorem Q9: ∀(chs:List (List Tw)) (i:Nat) (x:Nat × Tw),x∈jR i chs->∃j b,chs[j]? = some b/\∃y∈yx 12 b,x.1=4096*(i+j)+y.1/\x.2=y.2
 | [],i,x,h=>by cases h
 | b::r,i,x,h=>by
   rcases qD.1 h with h|h
   ·refine⟨0,b,rfl, ?_⟩
    have:∀(l:List Tw) (k:Nat),x∈yx (4096*i+k) l->∃y∈yx k l,x.1=4096*(i+0)+y.1/\x.2=y.2:=by
     intro l
     induction l with
     | nil=>intro k a;cases a
     | cons p l q =>
       intro k a;rcases qM.1 a with rfl|a
       ·exact⟨(k,p),qC,rfl,rfl⟩
       ·obtain⟨y,f,e⟩:=q (k+(p.size+12)) (by rw[<-Nat.add_assoc];exact a);exact⟨y,qF _ f,e⟩
    exact this b 12 h
   ·obtain⟨j,s,o,y,f,m,n⟩:=Q9 r (i+1) x h;exact⟨j+1,s,o,y,f,by rw[m];omega,n⟩
section
variable {D:jL}{L:jq}{chs:List (List Tw)}
theorem Qq(g:ku D chs){i:Nat}{a:List Tw}(hi:chs[i]? = some a):i<=199/\∃f,jT D.l (nmC i)=some f/\f.data=bz i a/\f.data.size=12+kR a/\12+kR a<=4096/\(∀p∈a,p.size<=2000):=by
 have n:=(qO.1 hi).1;have o:=g.many;obtain⟨f,j,b⟩:=g.files i a hi;obtain⟨k,m⟩:=g.small a (qN hi);exact⟨by omega,f,j,b,by rw[b,tr (by omega)],k,m⟩
theorem qQp(g:ku D chs)(gl:uV D L chs){q:Nat}{p:Tw}(h:(q,p)∈jR 0 chs):lr D L (q:Nat)=(p,0, { D with count:=D.count+2 })/\q<819200:=by
 obtain⟨j,t,s,y,T,n,o⟩:=Q9 chs 0 _ h;obtain⟨O,f,i,J,b,Y,M⟩:=Qq g s;have Z:=(qO.1 s).1;have r:=lX O;obtain⟨U,V,W,X,u,m,z⟩:=tm t (hdS (j:Nat)) M y (by rw[r];exact T);have N:vn (hdS (j:Nat)) t=f.data:=J.symm;rw[N]at U V W u m;rw[r]at X;rw[b]at u;dsimp only at n o;subst o;rw[qe]at n;have C:(q:Int)/4096=(j:Int):=by omega
 have H:(q:Int)%4096=(y.1:Int):=by omega
 refine⟨?_,by omega⟩;unfold lr;rw[qZ (by simp[nP g gl]),C,H,gl.x5,qZ (by omega),qa,qa];unfold tk;have S:=me g.up i;have Q:=rQ (a:=y.1) (k:=4) g.up i (by rw[b];omega);have I:jT ({ D with count:=D.count+1 }:jL).l (nmC j)=some f:=i;have R:=rQ (D:={ D with count:=D.count+1 }) (a:=y.1) (k:=y.2.size+12) g.up I (by rw[b];omega)
 have P:jz (f.data.extract y.1 (y.1+4))=y.2.size:=by
  have e:f.data.extract y.1 (y.1+4)=(jj y.2).extract 0 4:=by
   rw[<-m,ByteArray.extract_extract];congr 1;have:=gU y.2;omega
  rw[e];exact Ox y.2 z
 obtain⟨A,B⟩:=Oq y.2 z;rw[S];dsimp only;rw[qZ (by simp),qZ (by rw[b];omega)];rw[show((4:Int))=((4:Nat):Int) from rfl,Q];dsimp only;rw[qZ (by simp),P,qZ (by rw[b];omega),R];dsimp only;rw[qZ (by simp),m,qV A,B]
def lF(l:List (Nat × Tw))(pos:Int)(D:jL):oL:=match l.find? (fun x=>decide (pos<=(x.1:Int))) with
 | none=>⟨ByteArray.empty,0,0,4,D⟩
 | some x=>⟨x.2,(x.1:Int),((x.1+(x.2.size+12):Nat):Int),0,D⟩
theorem B9(n:Nat)(pos:Int):∀(a:List Tw) (k:Nat),((yx k a).map (fun x=>(x.1:Int))).find? (fun x=>decide (pos<=(n:Int)*4096+x))=((yx (4096*n+k) a).find? (fun x=>decide (pos<=(x.1:Int)))).map (fun x=>(x.1:Int)-4096*n)
 | [],k=>rfl
 | p::a,k=>by
   show((k:Int)::_).find? _=(((4096*n+k,p)::yx (4096*n+k+(p.size+12)) a).find? _).map _;rw[List.find?_cons,List.find?_cons];have e:(n:Int)*4096+(k:Int)=((4096*n+k:Nat):Int):=(by omega);by_cases h:pos<=((4096*n+k:Nat):Int)
   ·rw[qB (by rw[e];exact h),qB h];show some (k:Int)=some (((4096*n+k:Nat):Int)-4096*n);congr 1;omega
   ·rw[qA (by rw[e];exact h),qA h];have:=B9 n pos a (k+(p.size+12));rw[<-Nat.add_assoc (4096*n) k (p.size+12)]at this;exact this
theorem Bz(g:ku D chs)(pos:Int):∀(k n c:Nat),n+k=chs.length->∃b,b<=c+k/\bK k n { D with count:=c } pos=lF (jR n (chs.drop n)) pos { D with count:=b }
 | 0,n,c,h=>⟨c,qK _,by
   rw[List.drop_eq_nil_of_le (by omega)];rfl⟩
 | k+1,n,c,h=>by
   have r:n<chs.length:=(by omega);have N:=qE r;obtain⟨s,f,C,l,V,W,m⟩:=Qq g N;have t:=Yy (D:={ D with count:=c }) (n:=nmC n) (f:=f) g.up C;obtain⟨i,S,T⟩:=Yb s chs[n] m;rw[<-l]at i S T;have I:chs.drop n=chs[n]::chs.drop (n+1):=xZ r;have p:=B9 n pos chs[n] 12;have o:jR n (chs.drop n)=yx (4096*n+12) chs[n]++jR (n+1) (chs.drop (n+1)):=(by rw[I];rfl);have J:=lX s;cases a:(yx (4096*n+12) chs[n]).find? (fun x=>decide (pos<=(x.1:Int))) with
   | none =>
     obtain⟨b,X,e⟩:=Bz g pos k (n+1) (c+1) (by omega);refine⟨b,by omega, ?_⟩;rw[bK,t,qZ (by simp)];dsimp only;rw[i,p,a];dsimp only[Option.map];rw[e];unfold lF;rw[o,List.find?_append,a];rfl
   | some x =>
     refine⟨c+1,by omega, ?_⟩;rw[bK,t,qZ (by simp)];dsimp only;rw[i,p,a];dsimp only[Option.map];have P:=List.mem_of_find?_eq_some a;have O:x∈jR n [chs[n]]:=(by rw[sZ];exact P);obtain⟨j,R,q,y,Q,U,A⟩:=Q9 _ _ _ O;have M:j=0:=(by have:=(qO.1 q).1;simpa using this);subst M;obtain rfl:chs[n]=R:=(by simpa using q);obtain⟨Y,u,z,Z,r5,r6,r7⟩:=tm chs[n] (hdS (n:Nat)) m y (by rw[J];exact Q);have H:vn (hdS (n:Nat)) chs[n]=f.data:=l.symm;rw[H]at u z;have B:(x.1:Int)-4096*n=(y.1:Nat):=(by omega);rw[B,u,z];unfold lF;rw[o,List.find?_append,a];show(⟨y.2,_,_,0,_⟩:oL)=⟨x.2,_,_,0,_⟩
     rw[A];congr 1
     ·omega
     ·omega
theorem qQr(g:ku D chs)(x:Nat × Tw)(n:Nat)(h:x∈jR 0 (chs.take n)):x.1<4096*n:=by
 obtain⟨j,a,b,y,o,q,r⟩:=Q9 _ _ _ h
 have m:j<n/\chs[j]? = some a:=by
  have l:=(qO.1 b).1;rw[qT]at l;rw[List.getElem?_take,qV (by omega)]at b;exact⟨by omega,b⟩
 obtain⟨i,f,s,t,u,z,k⟩:=Qq g m.2;obtain⟨A,B,C,H,p,I,J⟩:=tm a (hdS (j:Nat)) k y (by rw[lX i];exact o);rw[show vn (hdS (j:Nat)) a=bz j a from rfl,tr i]at p;omega
theorem qQs(g:ku D chs)(gl:uV D L chs)(pos:Nat):∃c,c<=D.count+200/\tb D L (pos:Nat)=lF (jR 0 chs) (pos:Nat) { D with count:=c }:=by
 have o:=g.many;unfold tb;rw[qZ (by simp[nP g gl]),gl.x5];have i:(max (pos:Int) 0/4096).toNat=pos/4096:=by omega
 rw[i];have b:jR 0 chs=jR 0 (chs.take (pos/4096))++jR (0+(chs.take (pos/4096)).length) (chs.drop (pos/4096)):=by rw[<-oh,qp]
 have a:(jR 0 (chs.take (pos/4096))).find? (fun x=>decide ((pos:Int)<=(x.1:Int)))=none:=by
  rw[List.find?_eq_none];intro x m;have:=qQr g x _ m;simp;omega
 rcases qd (pos/4096) chs.length with l|k
 ·obtain⟨c,n,e⟩:=Bz g (pos:Nat) (chs.length-pos/4096) (pos/4096) D.count (by omega);refine⟨c,by omega, ?_⟩;have j:({ D with count:=D.count }:jL)=D:=rfl;rw[j]at e;rw[e];unfold lF;rw[b,List.find?_append,a,qT,Nat.min_eq_left (Nat.le_of_lt l),qe];rfl
 ·refine⟨D.count,by omega, ?_⟩;have f:chs.length-pos/4096=0:=by omega
  rw[f];unfold lF;rw[b,List.find?_append,a,List.drop_eq_nil_of_le k];rfl
end
theorem Bj: ∀(a b:List Tw),a.Pairwise (fun x y=>vT x y=true)->b.Pairwise (fun x y=>vT x y=true)->(∀x,x∈a↔x∈b)->a=b
 | [],[],_,_,_=>rfl
 | [],y::b,_,_,h=>by have:=(h y).2 qC;cases this
 | x::a,[],_,_,h=>by have:=(h x).1 qC;cases this
 | x::a,y::b,ha,hb,h=>by
   obtain⟨j,l⟩:=xU.1 ha;obtain⟨k,m⟩:=xU.1 hb
   have e:x=y:=by
    rcases qM.1 ((h x).1 qC) with e|n
    ·exact e
    ·rcases qM.1 ((h y).2 qC) with e|o
     ·exact e.symm
     ·exact absurd (Jz (j y o) (k x n)) (oc x)
   subst e;congr 1;refine Bj a b l m (fun z=>⟨fun f=>?_,fun f=>?_⟩)
   ·rcases qM.1 ((h z).1 (qF _ f)) with rfl|i
    ·exact absurd (j z f) (oc z)
    ·exact i
   ·rcases qM.1 ((h z).2 (qF _ f)) with rfl|i
    ·exact absurd (k z f) (oc z)
    ·exact i
theorem Ju: ∀(l:List Tw) (c:Nat),ym l c=ym (l.filter isC) c
 | [],c=>rfl
 | s::r,c=>by
   cases h:isC s
   ·rw[List.filter_cons_of_neg (by simp[h]),<-Ju r c];rw[ym,qZ (by simp[h])]
   ·rw[List.filter_cons_of_pos h,ym,ym,qV h,qV h,Ju r (c+1)]
theorem Bk: ∀(m c:Nat),c+m<=200->ym ((List.range' c m).map nmC) c=(0,c+m)
 | 0,c,_=>rfl
 | m+1,c,h=>by
   rw[List.range'_succ,List.map_cons];obtain⟨a,b⟩:=mF (i:=c) (by omega);rw[ym,qV a,b,qZ (by omega),Bk m (c+1) (by omega)];congr 1;omega
theorem qQt{D:jL}{chs:List (List Tw)}(g:ku D chs)(u:D.l.Pairwise (fun f g=>vT f.name g.name=true)):ym (D.l.map jO.name) 0=(0,chs.length):=by
 have z:=g.many
 have e:(D.l.map jO.name).filter isC=(List.range' 0 chs.length).map nmC:=by
  refine Bj _ _ (List.Pairwise.filter _ (List.pairwise_map.2 u)) ?_ (fun x=>⟨fun k=>?_,fun k=>?_⟩)
  ·refine List.pairwise_map.2 ?_;refine List.Pairwise.imp_of_mem ?_ (List.pairwise_lt_range' (s:=0) (n:=chs.length) (step:=1) (by omega));intro a b q r y;rw[List.mem_range'_1]at q r;have:=Mu 99 (m:=a) (n:=b) (by omega) (by omega);unfold vT;rw[show(nmC a).toList=(nmS 99 (a:Nat)).toList from rfl,show(nmC b).toList=(nmS 99 (b:Nat)).toList from rfl,this];exact qB (by omega)
  ·obtain⟨j,p⟩:=qo.1 k;obtain⟨f,t,rfl⟩:=qP.1 j;obtain⟨i,o,e⟩:=g.only f t p;exact qP.2 ⟨i,by rw[List.mem_range'_1];omega,e.symm⟩
  ·obtain⟨i,o,rfl⟩:=qP.1 k;rw[List.mem_range'_1]at o;obtain⟨f,j,_⟩:=g.files i chs[i] (qE (by omega));refine qo.2 ⟨?_,(mF (by omega)).1⟩;have:=Q7 (Lw j);rw[Lo j]at this;exact this
 rw[Ju,e,Bk _ _ (by omega),qe]
theorem Bv{D:jL}{chs:List (List Tw)}(g:ku D chs):∀(k n c:Nat) (L:jq),n+k=chs.length->(k=0->L.endp=kz chs)->∃E a,uT k n { D with count:=c } L=(0,E, { L with endp:=kz chs })/\vM D E/\E.count=a/\a<=c+k
 | 0,n,c,L,h,hL=>⟨_,c,by rw[<-hL rfl];rfl,vM.count D c,rfl,qK _⟩
 | k+1,n,c,L,h,hL=>by
   have t:n<chs.length:=(by omega);have l:=qE t;obtain⟨u,f,j,p,q,H,r⟩:=Qq g l;have y:=Yy (D:={ D with count:=c }) (n:=nmC n) (f:=f) g.up j;obtain⟨C,i,m⟩:=Yb u chs[n] r;rw[<-p]at C i m;rw[uT,y,qZ (by simp)];dsimp only;rw[m,qZ (by simp)];by_cases b:k=0
   ·rw[qV b,i];unfold lZ;rw[qZ (by omega),qZ (by omega)];have z:=Xb (D:={ D with count:=c+1 }) (n:=nmC n) (f:=f) g.up g.fails j;refine⟨_,c+1, ?_,(vM.count D (c+1)).trans (vM.synced _ (nmC n)),rfl,by omega⟩;show((kJ { D with count:=c+1 } (nmC n)).1,(kJ { D with count:=c+1 } (nmC n)).2,_)=_;rw[z]
    have e:kz chs=4096*n+f.data.size:=by
     have s:ur chs=chs[n]:=by
      unfold ur;rw[List.getLast?_eq_getElem?,show chs.length-1=n by omega,l];rfl
     unfold kz;rw[qZ (by omega),s,q,show chs.length-1=n by omega]
    rw[e]
   ·rw[qZ b,i,qZ (by omega)];obtain⟨E,a,e,A,B,I⟩:=Bv g k (n+1) (c+1) { L with endp:=4096*n+f.data.size } (by omega) (fun o=>absurd o b);exact⟨E,a,e,A,B,by omega⟩
theorem qQa{D:jL}{chs:List (List Tw)}(g:ku D chs)(i:D.l.Pairwise (fun f g=>vT f.name g.name=true)):∃E,gO D=(0,E,⟨D.xB,chs.length,kz chs,0⟩)/\vM D E/\E.count<=D.count+200:=by
 have n:=g.many
 have j:yE D=(0,D):=by
  unfold yE;rw[tA g.up g.zW,qV rfl]
 have b:uf D ⟨D.xB,0,0,0⟩=(0,D,⟨D.xB,chs.length,0,0⟩):=by
  unfold uf;rw[qQt g i]
 obtain⟨E,m,e,k,o,p⟩:=Bv g chs.length 0 D.count ⟨D.xB,chs.length,0,0⟩ (by omega) (fun a=>by unfold kz;rw[qV a]);refine⟨E, ?_,k,by omega⟩;unfold gO;rw[BS j,b,BR];exact e
theorem qQe(c:Nat)(b:c<=1048576):ku (fV c) []:=⟨rfl,rfl,qI _,fun i a h=>(by simp at h),fun a h=>(by cases h),fun f h=>(by cases h),rfl⟩
end
section
open Go.RowKit
abbrev Rec:= Nat × Tw
def vV(x:Rec):Nat:=x.1+(x.2.size+12)
def bC(l:List Rec):Prop:=l.Pairwise (fun x y=>vV x<=y.1)
def vd(l:List Rec)(k:Nat):Nat:=if k=0 then 0 else(l[k-1]?.map vV).getD 0
theorem By{l:List Rec}{k:Nat}{x:Rec}(h:l[k]? = some x):vd l (k+1)=vV x:=by unfold vd;rw[qZ (by omega),Nat.add_sub_cancel,h];rfl
theorem Bu: ∀(l:List Tw) (k:Nat),bC (yx k l)/\∀x∈yx k l,k<=x.1/\vV x<=k+kR l
 | [],k=>⟨List.Pairwise.nil,fun x h=>by cases h⟩
 | p::l,k=>by
   obtain⟨f,b⟩:=Bu l (k+(p.size+12));refine⟨xU.2 ⟨fun y i=>(b y i).1,f⟩,fun x a=>?_⟩;show _/\_<=k+(p.size+12+kR l)
   rcases qM.1 a with rfl|a
   ·refine⟨qK _, ?_⟩;show k+(p.size+12)<=_;omega
   ·have:=b x a;omega
theorem lH: ∀(chs:List (List Tw)) (i:Nat),(∀b∈chs,12+kR b<=4096)->bC (jR i chs)/\∀x∈jR i chs,4096*i+12<=x.1/\vV x<=4096*(i+chs.length)
 | [],i,_=>⟨List.Pairwise.nil,fun x h=>by cases h⟩
 | b::r,i,h=>by
   obtain⟨k,f⟩:=lH r (i+1) (fun q m=>h q (qF _ m));obtain⟨l,j⟩:=Bu b (4096*i+12);have o:=h b qC;refine⟨List.pairwise_append.2 ⟨l,k,fun x a y n=>?_⟩,fun x a=>?_⟩
   ·have:=(j x a).2;have:=(f y n).1;omega
   ·rw[qu];rcases qD.1 a with a|a
    ·have:=j x a;omega
    ·have:=f x a;omega
theorem Bg{l:List Rec}(h:bC l){k:Nat}(s:k<=l.length):l.find? (fun x=>decide ((vd l k:Int)<=(x.1:Int)))=l[k]? := by
 have j:=xY.1 h;have m:l=l.take k++l.drop k:=(qp k l).symm
 have p:(l.take k).find? (fun x=>decide ((vd l k:Int)<=(x.1:Int)))=none:=by
  rw[List.find?_eq_none];intro x r;obtain⟨i,a⟩:=ql r;have q:=(qO.1 a).1;rw[qT]at q;rw[List.getElem?_take,qV (by omega)]at a;have f:k-1<l.length:=by omega
  have e:vd l k=vV l[k-1]:=by unfold vd;rw[qZ (by omega),qE f];rfl
  rw[e]
  have n:l[i]=x:=by
   rw[qE (by omega)]at a;simpa using a
  have:x.1<vV l[k-1]:=by
   rcases qd i (k-1) with c|c
   ·have:=j i (k-1) (by omega) f c;rw[n]at this;unfold vV at this ⊢;omega
   ·have o:i=k-1:=(by omega);subst o;rw[n];unfold vV;omega
  simp;omega
 rw[m,List.find?_append];rw[<-m,p];rcases qd k l.length with c|c
 ·rw[xZ c,List.find?_cons]
  have:vd l k<=l[k].1:=by
   unfold vd;by_cases b:k=0
   ·rw[qV b];exact qI _
   ·rw[qZ b,qE (by omega)];exact j (k-1) k (by omega) c (by omega)
  rw[qB (by omega),qE c];rfl
 ·rw[List.drop_eq_nil_of_le c,xX c];rfl
theorem Bc(chs:List (List Tw))(h:∀b∈chs,12+kR b<=4096):vd (jR 0 chs) (jR 0 chs).length=kz chs∨(kz chs%4096=12/\vd (jR 0 chs) (jR 0 chs).length+12<=kz chs):=by
 by_cases j:0<chs.length
 ·obtain⟨a,x,rfl⟩:=Jy j;rw[Q8,oh,sZ,qe];by_cases i:0<x.length
  ·left;have f:x≠[]:=(by intro e;rw[e]at i;simp at i);obtain⟨y,p,rfl⟩:∃y p,x=y++[p]:=⟨x.dropLast,x.getLast f,(List.dropLast_concat_getLast f).symm⟩
   rw[ZN,<-qh,qL,List.length_singleton,tf];rw[By (x:=(4096*a.length+12+kR y,p)) (by rw[List.getElem?_append_right (qK _),Nat.sub_self];rfl)];show 4096*a.length+12+kR y+(p.size+12)=_;omega
  ·have e:x=[]:=List.eq_nil_of_length_eq_zero (by omega);subst e;right;show(4096*a.length+(12+0))%4096=12/\vd (jR 0 a++[]) (jR 0 a++[]).length+12<=4096*a.length+(12+0)
   rw[List.append_nil];refine⟨by omega, ?_⟩;obtain⟨_,k⟩:=lH a 0 (fun b l=>h b (qW _ l))
   have:vd (jR 0 a) (jR 0 a).length<=4096*a.length:=by
    unfold vd;split
    ·exact qI _
    ·rw[qE (by omega)];have:=(k _ (List.getElem_mem (show(jR 0 a).length-1<(jR 0 a).length by omega))).2;rw[qe]at this;exact this
   omega
 ·have e:chs=[]:=List.eq_nil_of_length_eq_zero (by omega);subst e;exact qX rfl
end
section
open Go.RowKit Go.Shelf
section
variable {At:j6}(api:j8 At)(nap:kZ){c:Ctx}{gl gd:Nat}{L L':jq}{D D':jL}{w w':World}
include api nap
abbrev Jg(At:j6)(c:Ctx)(gl gd:Nat)(L:jq)(r:Tw × Nat × jL):Ending->World->Prop:=vI At c gl gd (.tuple #[r.1,err r.2.1]) L r.2.2
omit nap in
omit nap in
theorem qQi(f:c.m=ptr gl)(h:TSt At c gl gd L D w)(pos:Int)(hw:(Lit.int .i64 pos).wf=true)(r:L.chunks<=200)(t:pos<0∨(L.chunks:Int)<=pos/4096∨pos%4096<12)(k:vu D L=0):Calls prog 80 #[ptr gl,pos] w (Jg At c gl gd L (ByteArray.empty,4,D)):=by
 have j:=qQ (nJ api f h);rw[k]at j;have u:=bounds_i64 hw;rcases(show pos<0∨0<=pos by omega) with C|y
 ·have H:decide (pos<0)=true:=qB C;clear t h f k r;go_enter func80,ntmps80;go_wp2_with fail;refine j.out.mono ?_;rintro e A⟨rfl,b⟩;have i:=qQ b;clear b;go_wp2;go_ret2;exact⟨rfl,i.out⟩
 ·obtain⟨p,rfl⟩:∃p:Nat,pos=p:=⟨pos.toNat,by omega⟩
  have H:decide ((p:Int)<0)=false:=qA (by omega);have J:(p:Int).tdiv 4096=((p/4096:Nat):Int):=by rw[Int.tdiv_eq_ediv_of_nonneg (by omega)];omega
  have M:(p:Int).tmod 4096=((p%4096:Nat):Int):=by rw[Int.tmod_eq_emod_of_nonneg (by omega)];omega
  have N:IntKind.i64.wrap ((p/4096:Nat):Int)=((p/4096:Nat):Int):=qz _ (by omega);by_cases z:L.chunks<=p/4096
  ·have I:decide ((L.chunks:Int)<=((p/4096:Nat):Int))=true:=qB (by omega);generalize p/4096=q at*;generalize p%4096=a at*;have B:=qQ f;generalize s:(L.chunks:Int)=n at*;have l:=qQ s;clear t h f k z u hw r y;go_enter func80,ntmps80;go_wp2_with fail;refine j.out.mono ?_;rintro e A⟨rfl,b⟩;have o:=b.cells.2.2.2.1;rw[l.out]at o;have i:=qQ b;clear b;go_wp2;go_ret2;exact⟨rfl,i.out⟩
  ·have I:decide ((L.chunks:Int)<=((p/4096:Nat):Int))=false:=qA (by omega);have O:decide (((p%4096:Nat):Int)<12)=true:=qB (by omega);generalize p/4096=q at*;generalize p%4096=a at*;have B:=qQ f;generalize s:(L.chunks:Int)=n at*;have l:=qQ s;clear t h f k z u hw r y;go_enter func80,ntmps80;go_wp2_with fail;refine j.out.mono ?_;rintro e A⟨rfl,b⟩;have o:=b.cells.2.2.2.1;rw[l.out]at o;have i:=qQ b;clear b;go_wp2;go_ret2;exact⟨rfl,i.out⟩
theorem qQo(P:c.m=ptr gl)(h:TSt At c gl gd L D w)(ok:WfP D)(aa:D.count<=1000000000)(p:Nat)(hw:(Lit.int .i64 (p:Nat)).wf=true)(hc:L.chunks<=200)(ab:p/4096<L.chunks)(ac:12<=p%4096)(S:vu D L=0):Calls prog 80 #[ptr gl,p] w (Jg At c gl gd L (tk D (nmC (p/4096)) (p%4096))):=by
 have R:=qQ (nJ api P h);rw[S]at R;have V:=bounds_i64 hw;have t1:decide ((p:Int)<0)=false:=qA (by omega);have e1:(p:Int).tdiv 4096=((p/4096:Nat):Int):=by rw[Int.tdiv_eq_ediv_of_nonneg (by omega)];omega
 have e2:(p:Int).tmod 4096=((p%4096:Nat):Int):=by rw[Int.tmod_eq_emod_of_nonneg (by omega)];omega
 have am:IntKind.i64.wrap ((p/4096:Nat):Int)=((p/4096:Nat):Int):=qz _ (by omega);have t2:decide ((L.chunks:Int)<=((p/4096:Nat):Int))=false:=qA (by omega);have t3:decide (((p%4096:Nat):Int)<12)=false:=qA (by omega);have Z:p%4096<4096:=Nat.mod_lt _ (by omega);have J:p/4096<=999999:=by omega
 generalize p/4096=q at*;generalize p%4096=a at*;generalize Q:(L.chunks:Int)=n at*;have U:=qQ Q;have hz:=td ok (nmC q);have Y:=qQ fun W=>nK nap q W J
 have H:=mX J;have N:=qQ fun(W:World) (hT:TSt At c gl gd L D W)=>(show Calls prog 129 #[ptr gd,.string (nmC q)] W (vI At c gl gd (.tuple #[.int .i64 ((j9 D (nmC q)).1:Nat),err (j9 D (nmC q)).2]) L D) from hT.same (api.zP (nmC q) (Classical.choose_spec hT).1 ok.ok H))
 generalize nmC q=l at*;have M:=qQ fun(W:World) (hT:TSt At c gl gd L D W)=>hT.xE api (fun F hF=>api.read l (a:Nat) 4 hF ok.ok (by omega) (dS (by omega)) (by decide) H)
 unfold tk;by_cases I:(j9 D l).2=0
 case neg =>
  rw[qV I];have t4:(((j9 D l).2:Int) != 0)=true:=by simp;omega
  generalize (j9 D l).2=y at*;generalize (j9 D l).1=z at*;clear h ok aa hc ab ac S V hw Q P hz I Z J H M;go_enter func80,ntmps80;go_wp2_with fail;refine KG R.out fun w1 f=>?_;have B:=f.cells.2.2.2.1;rw[U.out]at B;have t:=qQ f;clear f;go_wp2_with fail;refine KG (Y.out _) fun w2 o=>?_;have i:=t.out.below api o;have d1:=i.cells.2.1;have u:=qQ i;clear o i;go_wp2_with fail;refine KG (N.out _ u.out) fun w3 j=>?_;have d3:=j.cells.2.1;have A:=qQ j;clear j;go_wp2;go_ret2;exact⟨rfl,A.out⟩
 rw[qZ (by simp[I])];rw[I]at N;have b3:IntKind.i64.wrap (((j9 D l).1:Int)-(a:Nat))=((j9 D l).1:Int)-(a:Nat):=qz _ (by omega);have b4:IntKind.i64.wrap (((j9 D l).1:Int)-(a:Nat)-12)=((j9 D l).1:Int)-(a:Nat)-12:=qz _ (by omega);by_cases O:(j9 D l).1<a+12
 ·rw[qV O];have t4:decide (((j9 D l).1:Int)-(a:Nat)-12<0)=true:=qB (by omega);generalize (j9 D l).1=z at*;clear h ok aa hc ab ac S V hw Q P hz I Z J H M O;go_enter func80,ntmps80;go_wp2_with fail;refine KG R.out fun w1 f=>?_;have B:=f.cells.2.2.2.1;rw[U.out]at B;have t:=qQ f;clear f;go_wp2_with fail;refine KG (Y.out _) fun w2 o=>?_;have i:=t.out.below api o;have d1:=i.cells.2.1;have u:=qQ i;clear o i;go_wp2_with fail;refine KG (N.out _ u.out) fun w3 j=>?_;have d3:=j.cells.2.1;have A:=qQ j;clear j;go_wp2;go_ret2;exact⟨rfl,A.out⟩
 rw[qZ O];have t4:decide (((j9 D l).1:Int)-(a:Nat)-12<0)=false:=qA (by omega);have ae:=Yz D l (a:Nat) 4;have T:WfP (kM D l (a:Nat) 4).2.2:=Xy ok l (a:Nat) 4;have af:=ZF (n:=l) (a:=(a:Nat)) (k:=4) ok;generalize kM D l (a:Nat) 4=b at*;obtain⟨r,y4,D4⟩:=b;dsimp only at ae T af M ⊢;by_cases ad:y4=0
 case neg =>
  rw[qV ad];have t5:((y4:Int) != 0)=true:=by simp;omega
  generalize (j9 D l).1=z at*;clear h ok aa hc ab ac S V hw Q P hz I Z J H O T ae af ad;go_enter func80,ntmps80;go_wp2_with fail;refine KG R.out fun w1 f=>?_;have B:=f.cells.2.2.2.1;rw[U.out]at B;have t:=qQ f;clear f;go_wp2_with fail;refine KG (Y.out _) fun w2 o=>?_;have i:=t.out.below api o;have d1:=i.cells.2.1;have u:=qQ i;clear o i;go_wp2_with fail;refine KG (N.out _ u.out) fun w3 j=>?_;have d3:=j.cells.2.1;have A:=qQ j;clear j;go_wp2_with fail;refine KG (M.out _ A.out) fun w4 s=>?_;have d4:=s.cells.2.1;have C:=qQ s;clear s;go_wp2;go_ret2;exact⟨rfl,C.out⟩
 subst ad;rw[qZ (by simp)];have hG:=qQ fun(W:World)=>cI r W (by unfold maxLen;omega)
 by_cases ag:2000<jz r
 ·rw[qV (qX ag)];have t6:decide ((2000:Int)<(jz r:Int))=true:=qB (by omega);generalize (j9 D l).1=z at*;generalize jz r=g at*;clear h ok aa hc ab ac S V hw Q P hz I Z J H O T ae af ag;go_enter func80,ntmps80;go_wp2_with fail;refine KG R.out fun w1 f=>?_;have B:=f.cells.2.2.2.1;rw[U.out]at B;have t:=qQ f;clear f;go_wp2_with fail;refine KG (Y.out _) fun w2 o=>?_;have i:=t.out.below api o;have d1:=i.cells.2.1;have u:=qQ i;clear o i;go_wp2_with fail;refine KG (N.out _ u.out) fun w3 j=>?_;have d3:=j.cells.2.1;have A:=qQ j;clear j;go_wp2_with fail;refine KG (M.out _ A.out) fun w4 s=>?_;have d4:=s.cells.2.1;have C:=qQ s;clear s;go_wp2_with fail;refine X5 (hG.out _) ?_;go_wp2;go_ret2;exact⟨rfl,C.out⟩
 have t6:decide ((2000:Int)<(jz r:Int))=false:=qA (by omega);have b5:IntKind.i64.wrap (jz r:Int)=(jz r:Int):=qz _ (by omega);by_cases ah:(j9 D l).1<a+12+jz r
 ·rw[qV (qY ah)];have t7:decide (((j9 D l).1:Int)-(a:Nat)-12<(jz r:Int))=true:=qB (by omega);generalize (j9 D l).1=z at*;generalize jz r=g at*;clear h ok aa hc ab ac S V hw Q P hz I Z J H O T ae af ag ah;go_enter func80,ntmps80;go_wp2_with fail;refine KG R.out fun w1 f=>?_;have B:=f.cells.2.2.2.1;rw[U.out]at B;have t:=qQ f;clear f;go_wp2_with fail;refine KG (Y.out _) fun w2 o=>?_;have i:=t.out.below api o;have d1:=i.cells.2.1;have u:=qQ i;clear o i;go_wp2_with fail;refine KG (N.out _ u.out) fun w3 j=>?_;have d3:=j.cells.2.1;have A:=qQ j;clear j;go_wp2_with fail;refine KG (M.out _ A.out) fun w4 s=>?_;have d4:=s.cells.2.1;have C:=qQ s;clear s;go_wp2_with fail;refine X5 (hG.out _) ?_;go_wp2;go_ret2;exact⟨rfl,C.out⟩
 rw[qZ (by omega)];have t7:decide (((j9 D l).1:Int)-(a:Nat)-12<(jz r:Int))=false:=qA (by omega);have b6:IntKind.i64.wrap ((jz r:Int)+12)=((jz r+12:Nat):Int):=by rw[Int.natCast_add];exact qz _ (by omega)
 have b7:(jz r:Int)+12=((jz r+12:Nat):Int):=by omega
 have ai:=qQ fun(W:World) (hT:TSt At c gl gd L D4 W)=>hT.xE api (fun F hF=>api.read l (a:Nat) ((jz r+12:Nat):Int) hF T.ok (by omega) (dS (by omega)) (dS (by omega)) H)
 have ak:=ZF (n:=l) (a:=(a:Nat)) (k:=((jz r+12:Nat):Int)) T;generalize kM D4 l (a:Nat) ((jz r+12:Nat):Int)=b at*;obtain⟨s5,y5,D5⟩:=b;dsimp only at ak ai ⊢;have b8:IntKind.i64.wrap ((jz r+12:Nat):Int)=((jz r+12:Nat):Int):=qz _ (by omega);generalize al:((jz r+12:Nat):Int)=an at*;by_cases ad:y5=0
 case neg =>
  rw[qV ad];have t8:((y5:Int) != 0)=true:=by simp;omega
  generalize (j9 D l).1=z at*;generalize jz r=g at*;clear h ok aa hc ab ac S V hw Q P hz I Z J H O T ae af ag ah ak ad al;go_enter func80,ntmps80;go_wp2_with fail;refine KG R.out fun w1 f=>?_;have B:=f.cells.2.2.2.1;rw[U.out]at B;have t:=qQ f;clear f;go_wp2_with fail;refine KG (Y.out _) fun w2 o=>?_;have i:=t.out.below api o;have d1:=i.cells.2.1;have u:=qQ i;clear o i;go_wp2_with fail;refine KG (N.out _ u.out) fun w3 j=>?_;have d3:=j.cells.2.1;have A:=qQ j;clear j;go_wp2_with fail;refine KG (M.out _ A.out) fun w4 s=>?_;have d4:=s.cells.2.1;have C:=qQ s;clear s;go_wp2_with fail;refine X5 (hG.out _) ?_;go_wp2_with fail;refine KG (ai.out _ C.out) fun w5 X=>?_;have H5:=qQ X;clear X;go_wp2;go_ret2;exact⟨rfl,H5.out⟩
 subst ad;rw[qZ (by simp)];have hK:=qQ fun(W:World)=>JE s5 0 W (by unfold maxLen;omega) (by decide)
 unfold ln at hK;cases aj:bZ s5 0
 ·rw[qZ (by simp)];rw[aj]at hK;generalize (j9 D l).1=z at*;generalize jz r=g at*;generalize bT s5 0=pp at*;generalize vy s5 0=nn at*;clear h ok aa hc ab ac S V hw Q P hz I Z J H O T ae af ag ah ak al aj;go_enter func80,ntmps80;go_wp2_with fail;refine KG R.out fun w1 f=>?_;have B:=f.cells.2.2.2.1;rw[U.out]at B;have t:=qQ f;clear f;go_wp2_with fail;refine KG (Y.out _) fun w2 o=>?_;have i:=t.out.below api o;have d1:=i.cells.2.1;have u:=qQ i;clear o i;go_wp2_with fail;refine KG (N.out _ u.out) fun w3 j=>?_;have d3:=j.cells.2.1;have A:=qQ j;clear j;go_wp2_with fail;refine KG (M.out _ A.out) fun w4 s=>?_;have d4:=s.cells.2.1;have C:=qQ s;clear s;go_wp2_with fail;refine X5 (hG.out _) ?_;go_wp2_with fail;refine KG (ai.out _ C.out) fun w5 X=>?_;have H5:=qQ X;clear X;go_wp2_with fail;refine KG (hK.out _) fun w6 o=>?_;have H6:=qQ (H5.out.below api o);clear o;go_wp2;go_ret2;exact⟨rfl,H6.out⟩
 ·rw[qV rfl];rw[aj]at hK;generalize (j9 D l).1=z at*;generalize jz r=g at*;generalize bT s5 0=pp at*;generalize vy s5 0=nn at*;clear h ok aa hc ab ac S V hw Q P hz I Z J H O T ae af ag ah ak al aj;go_enter func80,ntmps80;go_wp2_with fail;refine KG R.out fun w1 f=>?_;have B:=f.cells.2.2.2.1;rw[U.out]at B;have t:=qQ f;clear f;go_wp2_with fail;refine KG (Y.out _) fun w2 o=>?_;have i:=t.out.below api o;have d1:=i.cells.2.1;have u:=qQ i;clear o i;go_wp2_with fail;refine KG (N.out _ u.out) fun w3 j=>?_;have d3:=j.cells.2.1;have A:=qQ j;clear j;go_wp2_with fail;refine KG (M.out _ A.out) fun w4 s=>?_;have d4:=s.cells.2.1;have C:=qQ s;clear s;go_wp2_with fail;refine X5 (hG.out _) ?_;go_wp2_with fail;refine KG (ai.out _ C.out) fun w5 X=>?_;have H5:=qQ X;clear X;go_wp2_with fail;refine KG (hK.out _) fun w6 o=>?_;have H6:=qQ (H5.out.below api o);clear o;go_wp2;go_ret2;exact⟨rfl,H6.out⟩
theorem Jb(b:c.m=ptr gl)(h:TSt At c gl gd L D w)(ok:WfP D)(k:D.count<=1000000000)(pos:Int)(hw:(Lit.int .i64 pos).wf=true)(f:L.chunks<=200):Calls prog 80 #[ptr gl,pos] w (Jg At c gl gd L (lr D L pos)):=by
 unfold lr;by_cases a:vu D L=0
 ·rw[qZ (by simp[a])];by_cases i:pos<0∨(L.chunks:Int)<=pos/4096∨pos%4096<12
  ·rw[qV i];exact qQi api b h pos hw f i a
  ·rw[qZ i];obtain⟨p,rfl⟩:∃p:Nat,pos=p:=⟨pos.toNat,by omega⟩
   have n:((p:Int)/4096).toNat=p/4096:=(by omega);have o:((p:Int)%4096).toNat=p%4096:=(by omega);rw[n,o];exact qQo api nap b h ok k p hw f (by omega) (by omega) a
 ·rw[qV a];have q:=qQ (nJ api b h);have t:((vu D L:Int) != 0)=true:=by simp;omega
  generalize vu D L=y at*;clear h ok k hw f a b;go_enter func80,ntmps80;go_wp2_with fail;refine q.out.mono ?_;rintro e r⟨rfl,j⟩;have l:=qQ j;clear j;go_wp2;go_ret2;exact⟨rfl,l.out⟩
end
end
end Go.Proofs.YthejglbnkmimjaaGreat

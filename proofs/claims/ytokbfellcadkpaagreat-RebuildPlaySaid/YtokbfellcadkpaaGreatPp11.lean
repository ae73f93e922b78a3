import Derived.Sort.Walk0
import Derived.Sort.KeysCollected
import Derived.Deep.AppendSrc
import Derived.Test.YtokbfellcadkpaaGreatPp07
set_option linter.unusedVariables false
set_option maxRecDepth 100000
set_option maxHeartbeats 9000000
namespace Go.Proofs.YtokbfellcadkpaaGreat
open Tryz
section
open Go.RowKit
theorem ml(a b:Tw):vC a b=true↔a.data.toList<b.data.toList:=by
 unfold vC;rw[bytesLess_eq,ByteArray.toList_eq,ByteArray.toList_eq];exact decide_eq_true_iff
theorem Gj{a b:Tw}(h:a.data.toList=b.data.toList):a=b:=ByteArray.ext (Array.toList_inj.1 h)
theorem rB(a:Tw):¬vC a a=true:=fun h=>List.lt_irrefl _ ((ml a a).1 h)
theorem JW{a b c:Tw}(h:vC a b=true)(k:vC b c=true):vC a c=true:=(ml a c).2 (List.lt_trans ((ml a b).1 h) ((ml b c).1 k))
theorem Th{a b:Tw}(h:¬vC a b=true)(i:a≠b):vC b a=true:=by
 rw[ml]at h ⊢;have f:b.data.toList<=a.data.toList:=List.not_lt.1 h;rcases Decidable.em (b.data.toList<a.data.toList) with c|c
 ·exact c
 ·exact absurd (Gj (List.le_antisymm (List.not_lt.1 c) f)) i
def uu(l:List jU):Prop:=l.Pairwise (fun x y=>vC x.name y.name=true)
theorem uu.ne{l:List jU}(h:uu l){i j:Nat}{x y:jU}(hi:l[i]? = some x)(a:l[j]? = some y)(c:i<j):vC x.name y.name=true:=by
 have b:=(qP.1 a).1;have:=List.pairwise_iff_getElem.1 h i j (by omega) b c;rw[qC (by omega)]at hi;rw[qC b]at a;injection hi with hi;injection a with a;rw[hi,a]at this;exact this
theorem rC{l:List jU}{n:Tw}(h:¬jD l n<l.length):∀x∈l,x.name≠n:=by
 intro x b e;obtain⟨j,a⟩:=List.getElem?_of_mem b;have:=Ho a e;have:=(qP.1 a).1;omega
theorem Tl(l:List jU)(n:Tw):∀x∈l.take (vp l n),vC x.name n=true:=by
 intro x c;obtain⟨j,a⟩:=List.getElem?_of_mem c;have b:=(qP.1 a).1;rw[qS]at b;rw[List.getElem?_take,qV (by omega),qC (by omega)]at a;injection a with a;have:=List.not_of_lt_findIdx (p:=fun f=>!vC f.name n) (xs:=l) (i:=j) (by unfold vp at b;omega);rw[a]at this;simpa using this
theorem Tm(l:List jU)(n:Tw)(q:uu l)(o:∀x∈l,x.name≠n):∀x∈l.drop (vp l n),vC n x.name=true:=by
 intro x r;obtain⟨j,a⟩:=List.getElem?_of_mem r;rw[List.getElem?_drop]at a;have t:=(qP.1 a).1;have b:vp l n<l.length:=by omega
 have m:l.findIdx (fun f=>!vC f.name n)<l.length:=b;have i:=List.findIdx_getElem (p:=fun f=>!vC f.name n) (xs:=l) (w:=m)
 have k:¬vC (l[vp l n]).name n=true:=by
  have:(!vC (l[vp l n]).name n)=true:=i;simpa using this
 have c:=Th k (o _ (List.getElem_mem b));rcases Nat.eq_zero_or_pos j with rfl|s
 ·rw[Nat.add_zero,qC b]at a;injection a with a;rw[<-a];exact c
 ·exact JW c (q.ne (qC b) a (by omega))
theorem Gv{l:List jU}(j:uu l)(f:jU)(o:∀x∈l,x.name≠f.name):uu (kY l f):=by
 unfold kY uu;have k:=Tl l f.name;have m:=Tm l f.name j o;have p:(l.take (vp l f.name)).Pairwise (fun x y=>vC x.name y.name=true):=List.Pairwise.sublist (List.take_sublist _ _) j;have n:(l.drop (vp l f.name)).Pairwise (fun x y=>vC x.name y.name=true):=List.Pairwise.sublist (List.drop_sublist _ _) j;rw[qb];refine List.pairwise_append.2 ⟨p,List.pairwise_append.2 ⟨List.pairwise_singleton _ _,n,fun a i b c=>?_⟩,fun a i b c=>?_⟩
 ·obtain rfl:a=f:=by simpa using i
  exact m b c
 ·rcases qB.1 c with c|c
  ·obtain rfl:b=f:=(by simpa using c);exact k a i
  ·exact JW (k a i) (m b c)
theorem JA{l:List jU}(p:uu l)(i:Nat):uu (kO l i):=by
 unfold kO uu;have e:l=l.take i++l.drop i:=(ql i l).symm;have f:(l.take i++l.drop i).Pairwise (fun x y=>vC x.name y.name=true):=by rw[ql];exact p
 obtain⟨j,k,m⟩:=List.pairwise_append.1 f;have c:(l.drop (i+1)).Sublist (l.drop i):=by rw[<-List.drop_drop];exact List.drop_sublist _ _
 exact List.pairwise_append.2 ⟨j,k.sublist c,fun a n b o=>m a n b (c.subset o)⟩
theorem Tn{l:List jU}(k:uu l){c:List (List UInt8)}(j:c.Perm (l.map (fun f=>f.name.data.toList))):c.mergeSort (fun x y=>decide (x<=y))=l.map (fun f=>f.name.data.toList):=by
 have i:c.mergeSort leB=(l.map (fun f=>f.name.data.toList)).mergeSort leB:=mergeSort_of_perm j;refine Eq.trans i (List.mergeSort_of_pairwise ?_);refine List.pairwise_map.2 (k.imp fun {a b} h=>?_);show decide (a.name.data.toList<=b.name.data.toList)=true;exact qA (List.le_of_lt ((ml _ _).1 h))
theorem Gy{l:List jU}(c:uu l):(l.map (fun f=>f.name.data.toList)).Nodup:=by
 refine List.pairwise_map.2 (c.imp fun {a b} h e=>?_);have:=(ml _ _).1 h;rw[e]at this;exact List.lt_irrefl _ this
theorem Gu{l:List jU}(c:uu l):l.Pairwise (fun x y=>x.name≠y.name):=c.imp fun {a b} h e=>by rw[e]at h;exact rB _ h
end
section
open Go.RowKit
open Go.Maps (Keyed)
def ug: Value->Option (DataW Unit × List MemPlace)
 | .pointer none=>some (.lit (.int .i64 (-1)),[])
 | .pointer (some ⟨b,0,none⟩)=>some (.lit (.int .i64 (b:Int)),[])
 | _=>none
theorem QV{v:Value}{y:DataW Unit × List MemPlace}(h:ug v=some y):(v = .pointer none/\y.1 = .lit (.int .i64 (-1)))∨∃b:Nat,v = .pointer (some ⟨b,0,none⟩)/\y.1 = .lit (.int .i64 (b:Int)):=by
 unfold ug at h;split at h
 ·injection h with h;subst h;exact qX ⟨rfl,rfl⟩
 ·rename_i b;injection h with h;subst h;exact qY ⟨b,rfl,rfl⟩
 ·cases h
def yU(n:Tw):Lit:=.string n.data.toList
theorem oO{a b:Tw}(h:yU a=yU b):a=b:=by unfold yU at h;injection h with h;exact Gj h
theorem JB{n:Tw}(h:n.size<=maxLen):keyOf prog 9 (.string n)=some (yU n):=Go.WideMaps.keyOf_string_mk Tryz.underlying9 h
theorem Gg(n:Tw):WideAt.IsKeyLit (yU n):=trivial
theorem mn: Keyed prog 9:=Maps.string_keyed Tryz.underlying9
theorem Tp(w:World):(zeroValue 172).run prog w = .ok (.pointer none) w:=by kernel_rfl
structure fV(D0:DataW Unit)(L:List (Tw × Nat)):Prop where
 yes:∀x∈L,∀zd,D0.atKey (yU x.1) zd = .lit (.int .i64 (x.2:Int))
 no:∀n:Tw,(∀x∈L,x.1≠n)->Maps.has D0 (yU n)=false
def vc(w:World)(mb:Nat)(L:List (Tw × Nat)):Prop:=∃n D0,w.ownsMap prog 9 ug mb n D0/\fV D0 L
section
variable {w w':World}{mb:Nat}{L L':List (Tw × Nat)}{D0:DataW Unit}{F:List Nat}
theorem Tr{n:Nat}(h:w.ownsMap prog 9 ug mb n D0)(j:jG F w w')(i:mb ∉ F):w'.ownsMap prog 9 ug mb n D0:=by
 have f:=h.lt;obtain⟨b,a,c,r⟩:=h;exact⟨b,a,(j.block mb f i).trans c,r⟩
theorem vc.qe(h:vc w mb L)(f:jG F w w')(c:mb ∉ F):vc w' mb L:=by
 obtain⟨n,D0,a,b⟩:=h;exact⟨n,D0,Tr a f c,b⟩
theorem vc.lt(h:vc w mb L):mb<w.heap.size:=by
 obtain⟨n,D0,a,b⟩:=h;exact a.lt
theorem vc.ne{g:Nat}{t:TypeId}{cs:Array Value}(h:vc w mb L)(b:jY w g t cs):mb≠g:=by
 rintro rfl;obtain⟨n,D0,⟨f,c,a,_⟩,_⟩:=h;unfold jY at b;rw[b]at a;cases a
theorem vc.own_ne{base size n:Nat}{e:TypeId}{v:Value}{xs:List Value}(h:vc w mb L)(i:w.ownsRow base e size v n xs):v.ownBlock≠some mb:=by
 intro b;rcases i.2 with⟨rfl,_⟩|⟨a,j,c,rfl,_,f,_⟩
 ·cases b
 ·obtain rfl:a=mb:=by simpa[Value.ownBlock] using b
  exact h.ne (show jY w a e c from f) rfl
theorem fV.has(h:fV D0 L){x:Tw × Nat}(a:x∈L):Maps.has D0 (yU x.1)=true:=Maps.has_true_of_atKey (h.yes x a)
theorem fV.mem(h:fV D0 L){n:Tw}(a:Maps.has D0 (yU n)=true):∃x∈L,x.1=n:=by
 rcases Classical.em (∃x∈L,x.1=n) with c|c
 ·exact c
 ·have:=h.no n (fun x b e=>c ⟨x,b,e⟩);rw[a]at this;cases this
theorem Gb{n:Nat}(h:w.ownsMap prog 9 ug mb n D0){m:Tw}(j:m.size<=maxLen):
  ∃v k,(Instr.lookup 71 (.map (some mb)) (.string m) false).run prog w = .ok v w/\ug v=some (D0.atKey (yU m) (.lit (.int .i64 (-1))),k):=by
 obtain⟨o,l,i,F,_,rfl⟩:=h;rcases Maps.fit_look false mn Tryz.underlying71 (Tp w) i F (JB j) with⟨b,_,a⟩|⟨c,y,_,_,b,f,a,_⟩
 ·exact⟨_,[],b,by rw[a];rfl⟩
 ·exact⟨c.val,y.2,b,by rw[a];exact f⟩
theorem vc.look(h:vc w mb L){m:Tw}(j:m.size<=maxLen){b:Nat}(l:(m,b)∈L):
  (Instr.lookup 71 (.map (some mb)) (.string m) false).run prog w = .ok (.pointer (some ⟨b,0,none⟩)) w:=by
 obtain⟨n,D0,f,i⟩:=h;obtain⟨v,o,k,a⟩:=Gb f j;rw[i.yes (m,b) l]at a;rcases QV a with⟨rfl,e⟩|⟨c,rfl,e⟩
 ·simp only[DataW.lit.injEq,Lit.int.injEq,true_and]at e;omega
 ·simp only[DataW.lit.injEq,Lit.int.injEq,true_and]at e;obtain rfl:b=c:=by omega
  exact k
theorem vc.zJ(h:vc w mb L){m:Tw}(f:m.size<=maxLen)(j:∀x∈L,x.1≠m):
  (Instr.lookup 71 (.map (some mb)) (.string m) false).run prog w = .ok (.pointer none) w:=by
 obtain⟨n,D0,b,c⟩:=h;obtain⟨v,l,i,a⟩:=Gb b f;rw[Maps.atKey_of_not_has (c.no m j)]at a;rcases QV a with⟨rfl,e⟩|⟨k,rfl,e⟩
 ·exact i
 ·simp only[DataW.lit.injEq,Lit.int.injEq,true_and]at e;omega
theorem fV.keys{n:Nat}(h:fV D0 L)(i:w.ownsMap prog 9 ug mb n D0)(j:(L.map (fun x=>x.1.data.toList)).Nodup):(L.map (fun x=>x.1.data.toList)).Perm (strKeys D0):=by
 obtain⟨o,e,c,_⟩:=i.entries mn;obtain⟨q,b,k⟩:=i.keysOf;rw[e]at b;injection b with b;subst b;rw[e];refine perm_strKeys c (fun p c=>?_) j (fun x=>?_)
 ·obtain⟨v,m⟩:=k p c;obtain⟨x,_,a,_⟩:=Maps.keyOf_str Tryz.underlying9 m;exact⟨x,a⟩
 ·rw[<-e];constructor
  ·intro a;obtain⟨y,f,rfl⟩:=qN.1 a;exact h.has f
  ·intro a;obtain⟨y,f,l⟩:=h.mem (n:=⟨x.toArray⟩) (by unfold yU;simpa using a);exact qN.2 ⟨y,f,by rw[l]⟩
theorem fV.size{n:Nat}(h:fV D0 L)(b:w.ownsMap prog 9 ug mb n D0)(c:(L.map (fun x=>x.1.data.toList)).Nodup):Maps.size D0=L.length:=by
 have:=(h.keys b c).length_eq;obtain⟨a,e,_⟩:=b.entries mn;rw[e]at this ⊢;rw[qj]at this;show a.length=_;rw[this];show _=(a.map _).length;rw[qj]
theorem vc.len(h:vc w mb L)(f:(L.map (fun x=>x.1.data.toList)).Nodup)(b:TypeId):(Builtin.len_ #[71] b #[.map (some mb)]).run prog w = .ok (.int .i64 (L.length:Nat)) w:=by
 obtain⟨n,D0,a,c⟩:=h;rw[a.len Tryz.underlying71 b,c.size a f]
theorem Ts{n:Nat}(f:w.ownsMap prog 9 ug mb n D0):w.ownsMap prog 9 ug mb (Maps.size D0) D0:=by
 obtain⟨a,b,c,F,i,rfl⟩:=f;refine⟨a,b,c,F, ?_,rfl⟩;exact Nat.le_of_eq (length_read (R0:=ug) a).symm
theorem vc.store(h:vc w mb L)(r:(L.map (fun x=>x.1.data.toList)).Nodup)(I:L.length<=400){m:Tw}(u:m.size<=maxLen){b:Nat}
  (o:(m,b)∈L') (p:∀x∈L',x=(m,b)∨(x∈L/\x.1≠m)) (q:∀x∈L,x.1≠m->x∈L'):
  ∃w',(Instr.mapUpdate 71 (.map (some mb)) (.string m) (.pointer (some ⟨b,0,none⟩))).run prog w = .ok () w'/\vc w' mb L'/\jG [mb] w w':=by
 obtain⟨n,D0,f,c⟩:=h;have A:=c.size f r;obtain⟨w',z,y,B⟩:=(Ts f).store mn Tryz.underlying71 (by rw[A];unfold maxLen;omega) (JB u) (val:=.pointer (some ⟨b,0,none⟩)) rfl;refine⟨w',z,⟨_,_,y,⟨fun x i H=>?_,fun s j=>?_⟩⟩,(jG.refl [mb] w).grown B.grown (fun k t=>qX (by simpa using t.symm))⟩
 ·rcases p x i with rfl|⟨C,a⟩
  ·exact Maps.atKey_put_same f.isMap (Gg _) _ _
  ·rw[Maps.atKey_put_other (fun e=>a (oO e))];exact c.yes x C H
 ·have a:m≠s:=j (m,b) o;rw[Maps.has_put_other (fun e=>a (oO e).symm)];refine c.no s (fun x i e=>?_);exact j x (q x i (fun l=>a (l.symm.trans e))) e
theorem vc.drop(h:vc w mb L){m:Tw}(p:m.size<=maxLen)(j:∀x∈L',x∈L/\x.1≠m)(l:∀x∈L,x.1≠m->x∈L')(f:TypeId):
  ∃w',(Builtin.delete_ #[71,9] f #[.map (some mb),.string m]).run prog w = .ok (.tuple #[]) w'/\vc w' mb L'/\jG [mb] w w':=by
 obtain⟨n,D0,q,c⟩:=h;obtain⟨w',t,r,y⟩:=q.drop mn Tryz.underlying71 (JB p) f;refine⟨w',t,⟨_,_,r,⟨fun x b A=>?_,fun s u=>?_⟩⟩,(jG.refl [mb] w).grown y.grown (fun k o=>qX (by simpa using o.symm))⟩
 ·obtain⟨z,a⟩:=j x b;rw[Maps.atKey_del_other (fun e=>a (oO e))];exact c.yes x z A
 ·rcases Decidable.em (s=m) with rfl|a
  ·exact Maps.has_del_same
  ·rw[Maps.has_del_other (fun e=>a (oO e))];refine c.no s (fun x b e=>?_);exact u x (l x b (fun i=>a (e.symm.trans i))) e
end
theorem vc.made(w:World)(o:Obj)(a:o = .map #[] 0):vc (w.alloc o) w.heap.size []:=by
 subst a;exact⟨_,_,World.ownsMap_made _ _ _ _,⟨fun x b=>(by cases b),fun n _=>rfl⟩⟩
end
section
open Go.RowKit
theorem rD(d:Tw)(j:Nat):(byteCells d)[j]? = (d.data[j]?).map (fun b=>Value.int .u8 (b.toNat:Int)):=by
 unfold byteCells;rw[qu,Array.getElem?_toList]
theorem Tt(d s:Tw):byteCells (d++s)=byteCells d++byteCells s:=by
 unfold byteCells;rw[ByteArray.data_append,Array.toList_append,List.map_append]
theorem Gc(d:Tw)(m:Nat):byteCells (d.extract 0 m)=(byteCells d).take m:=by
 unfold byteCells;rw[ByteArray.data_extract,Array.toList_extract,<-List.map_take];simp
theorem Gd(d:Tw):∀u∈byteCells d,u.oneCell'=true:=by
 intro u a;obtain⟨b,_,rfl⟩:=qN.1 a;rfl
abbrev uW(w:World)(base:Nat)(v:Value)(d:Tw):Prop:=w.ownsRow base 5 1 v d.size (byteCells d)
theorem Ta(w:World)(base:Nat):uW w base (.slice none 0 0) ByteArray.empty:=World.ownsRow_nil w base _ 1
section
variable {w:World}{base:Nat}{v:Value}{d:Tw}
theorem ln(h:uW w base v d):∃A cap,v = .slice A d.size cap/\d.size<=cap/\cap<=maxLen/\(0<cap->∃b,A=some ⟨b,0,none⟩/\base<=b/\b<w.heap.size)/\(cap=0->d.size=0):=by
 rcases h.2 with⟨rfl,e⟩|⟨g,cap,i,rfl,f,m,a,c,k,l⟩
 ·exact⟨none,0,by rw[e],by omega,qF _,fun h=>absurd h (by omega),fun _=>e⟩
 ·exact⟨_,cap,rfl,a,c,fun _=>⟨g,rfl,f,(h.lt g rfl).2⟩,fun j=>by omega⟩
theorem Te{A:Option Addr}{cap:Nat}(h:uW w base (.slice A d.size cap) d){m:Nat}(p:m<=d.size):uW w base (.slice A m cap) (d.extract 0 m):=by
 have k:(d.extract 0 m).size=m:=by rw[qT];omega
 unfold uW;rw[k,Gc];refine⟨by rw[qS,h.1];omega, ?_⟩;rcases h.2 with⟨e,n⟩|⟨g,l,a,e,i,j,o,b,c,f⟩
 ·injection e with e e3 e4;exact qX ⟨by rw[e,e4,show m=0 by omega],by omega⟩
 ·simp only[Value.slice.injEq,true_and]at e;obtain⟨rfl,rfl⟩:=e;refine qY ⟨g,cap,a,rfl,i,j,by omega,b,c, ?_⟩;rw[<-f,List.take_take];congr 1;omega
theorem JC: (prog.info? 5).map (fun i=>(i.zero,i.size,i.bytes))=some (some (.int .u8 0),1,1):=by kernel_rfl
theorem Ti(h:uW w base v d)(s:Tw)(hs:d.size+s.size<=1099511627776)(Q:base<=w.heap.size)(q:TypeId):
  ∃r w',(Builtin.append_ #[109,9] q #[v,.string s]).run prog w = .ok r w'/\uW w' base r (d++s)/\w.grownBy w' v.ownBlock/\(r.ownBlock=v.ownBlock∨r.ownBlock=some w.heap.size):=by
 obtain⟨i,o,N,p,O⟩:=info_parts JC;have c:Src prog i.size 9 (.string s) s.size (byteCells s) w:=by rw[p];exact Src.ofString w Tryz.underlying9 s
 have Y:(d++s).size=d.size+s.size:=qy;have V:(byteCells d).length=d.size:=byteCells_length d;have J:(byteCells s).length=s.size:=byteCells_length s;unfold uW;rw[Y,Tt];have m:(byteCells d++byteCells s).length=(d.size+s.size)*1:=by rw[qI,V,J];omega
 have grown:∀(b:Nat),b<d.size+s.size->∀(row:Option Nat),
   (w.drew.alloc (.cells ((byteCells d++byteCells s).toArray++Builtin.zeroCells (Value.int .u8 0).cells (grownCap w (d.size+s.size) b 5-(d.size+s.size))) 5)).ownsRow base 5 1
    (.slice (some ⟨w.heap.size,0,none⟩) (d.size+s.size) (grownCap w (d.size+s.size) b 5)) (d.size+s.size) (byteCells d++byteCells s) /\
   w.grownBy (w.drew.alloc (.cells ((byteCells d++byteCells s).toArray++Builtin.zeroCells (Value.int .u8 0).cells (grownCap w (d.size+s.size) b 5-(d.size+s.size))) 5)) row:=by
  intro b ho row;have U:=grownCap_ge w (d.size+s.size) b 5;have y:grownCap w (d.size+s.size) b 5<=maxLen:=grownCap_le_maxLen w _ b _ (by unfold maxLen;omega);refine⟨⟨m,.inr ⟨w.heap.size,_,_,rfl,Q,heap_alloc_new w.drew _,U,y, ?_, ?_⟩⟩,⟨rfl,rfl,rfl,by simp,fun k z _=>Below.heap_alloc w.drew _ k z⟩⟩
  ·rw[Array.size_append,List.size_toArray,size_zeroCells,m];show(d.size+s.size)*1+(_-_)*1=_;omega
  ·rw[Array.toList_append,<-m];exact List.take_left
 rcases h.2 with⟨rfl,e⟩|⟨g,a,l,rfl,R,I,Z,y,S,W⟩
 ·by_cases A:s.size=0
  ·have t:byteCells d=[]:=List.eq_nil_of_length_eq_zero (by omega);have B:byteCells s=[]:=List.eq_nil_of_length_eq_zero (by omega);refine⟨.slice none 0 0,w, ?_,by rw[t,B,e,A];exact World.ownsRow_nil w base _ 1,⟨rfl,rfl,rfl,qK _,fun _ _ _=>rfl⟩,qX rfl⟩;have H:=c.len w;have C:=c.cells;rw[A,B]at C;rw[A]at H;simp[Builtin.append_,run_underlying Tryz.underlying109,run_underlying Tryz.underlying9,sizeOf,typeInfo,o,H,C]
  ·have n:=run_append_grow_src (P:=prog) w 109 9 q 5 i _ Tryz.underlying109 o N none 0 0 [] (by simp[Builtin.firstCells]) (.string s) s.size (byteCells s) c (by omega) (by omega) (growslice_fits (by omega) (by rw[O];omega));have t:byteCells d=[]:=List.eq_nil_of_length_eq_zero (by omega);have f:=grown 0 (by omega) (Value.ownBlock (.slice none 0 0));rw[t,e]at f ⊢;exact⟨_,_,n,f.1,f.2,qY rfl⟩
 ·by_cases M:d.size+s.size<=a
  ·have T:d.size*i.size+(byteCells s).length<=l.size:=(by rw[J,S,p];omega);have hst:=run_storeCells_at prog g (d.size*i.size) 5 (byteCells s) 0 l w I (by simpa using T) (Gd s);simp only[Nat.add_zero]at hst
   have n:(Builtin.append_ #[109,9] q #[.slice (some ⟨g,0,none⟩) d.size a,.string s]).run prog w = .ok (.slice (some ⟨g,0,none⟩) (d.size+s.size) a) (w.setRow g (l.toList.take (d.size*i.size)++byteCells s++l.toList.drop (d.size*i.size+(byteCells s).length)).toArray):=by
    simp[Builtin.append_,run_underlying Tryz.underlying109,run_underlying Tryz.underlying9,sizeOf,typeInfo,o,c.len,c.cells,M,Addr.add_lit,hst]
   refine⟨_,_,n,⟨m,.inr ⟨g,a,_,rfl,R,setRow_heap w g l _ _ _ I,M,y, ?_, ?_⟩⟩,⟨rfl,rfl,rfl,by simp,fun k _ z=>setRow_other w g k _ (fun e=>z (by simp[Value.ownBlock,e]))⟩,qX rfl⟩
   ·simp only[List.size_toArray,List.length_append,List.length_take,List.length_drop,Array.length_toList];omega
   ·rw[p,W,<-m];exact List.take_left
  ·have n:=run_append_grow_src (P:=prog) w 109 9 q 5 i _ Tryz.underlying109 o N (some ⟨g,0,none⟩) d.size a (byteCells d)
    (by rw[p];exact run_firstCells_some w.drew 1 d.size ⟨g,0,none⟩ d.size a (byteCells d) (by omega) (fun j u X=>h.cells rfl j u X)) (.string s) s.size (byteCells s) c (by omega) (by omega) (growslice_fits (by omega) (by rw[O];omega))
   have f:=grown a (by omega) (Value.ownBlock (.slice (some ⟨g,0,none⟩) d.size a));exact⟨_,_,n,f.1,f.2,qY rfl⟩
theorem Gf(w:World)(A:Option Addr)(c:Nat):(convert 109 9 (.slice A 0 c)).run prog w = .ok (.string ByteArray.empty) w:=by
 cases A with
 | none=>exact run_convert_bytes_nil w 109 5 Tryz.underlying109 Tryz.underlying5 0 c 9 Tryz.underlying9
 | some a=>exact run_convert_bytes_back w 109 9 5 a c [] Tryz.underlying109 Tryz.underlying5 Tryz.underlying9 (fun j b=>absurd b (Nat.not_lt_zero j))
theorem To{b cap n:Nat}(h:uW w base (.slice (some ⟨b,0,none⟩) n cap) d){a k:Nat}(r:a+k<=d.size)(c:Nat):
  (convert 109 9 (.slice (some ⟨b,a,none⟩) k c)).run prog w = .ok (.string (d.extract a (a+k))) w:=by
 obtain rfl:n=d.size:=by
  rcases h.2 with⟨e,p⟩|⟨g,m,o,e,_⟩
  ·cases e
  ·simp only[Value.slice.injEq]at e;exact e.2.1
 have l:(d.extract a (a+k)).data.toList.length=k:=by
  rw[Array.length_toList];show(d.extract a (a+k)).size=k;rw[qT];omega
 have f:=run_convert_bytes_back (P:=prog) w 109 9 5 ⟨b,a,none⟩ c (d.extract a (a+k)).data.toList Tryz.underlying109 Tryz.underlying5 Tryz.underlying9
  (fun j q=>by
   have i:(⟨b,a,none⟩:Addr).add j=⟨b,a+j,none⟩:=(by unfold Addr.add;split<;>simp_all);have s:d.data.size=d.size:=rfl;rw[i,h.cellAt (a+j) (by omega),rD,Array.getElem?_eq_getElem (by omega),Option.map_some];congr 3;rw[Array.getElem_toList];simp only[ByteArray.data_extract,Array.getElem_extract])
 rw[l]at f;exact f
theorem qQQ(d s:Tw)(a:Nat)(f:a<=d.size):byteCells (y7 d s a)=(byteCells d).take a++(byteCells s).take (d.size-a)++(byteCells d).drop (a+min s.size (d.size-a)):=by
 have i:(byteCells d).length=d.size:=byteCells_length d;have k:(byteCells s).length=s.size:=byteCells_length s;have l:d.data.size=d.size:=rfl;have m:s.data.size=s.size:=rfl;apply List.ext_getElem?;intro j;rw[rD];show Option.map _ ((cU d s a s.size).toArray[j]?)=_;rw[List.getElem?_toArray];rcases Nat.lt_or_ge j d.size with b|b
 ·have e:(cU d s a s.size)[j]? = some ((cU d s a s.size).getD j 0):=by
   rw[qz,qC (by rw[fO];exact b)];rfl
  rw[e,XF d s a s.size j b,Option.map_some];rcases Nat.lt_or_ge j a with c|c
  ·rw[qZ (by omega),qb,List.getElem?_append_left (by rw[qS];omega),List.getElem?_take,qV c,rD,Array.getElem?_eq_getElem (by omega),Option.map_some,qz,Array.getElem?_toList,Array.getElem?_eq_getElem (by omega)];rfl
  ·rcases Nat.lt_or_ge j (a+min s.size (d.size-a)) with c2|c2
   ·rw[qV (by omega),List.getElem?_append_left (by rw[qI,qS,qS];omega),List.getElem?_append_right (by rw[qS];omega),qS,List.getElem?_take,qV (by omega),rD,
     show j-min a (byteCells d).length=j-a by omega,Array.getElem?_eq_getElem (by omega),Option.map_some,qz,Array.getElem?_toList,Array.getElem?_eq_getElem (by omega)]
    rfl
   ·rw[qZ (by omega),List.getElem?_append_right (by rw[qI,qS,qS];omega),qI,qS,qS,List.getElem?_drop,rD,
     show a+min s.size (d.size-a)+(j-(min a (byteCells d).length+min (d.size-a) (byteCells s).length))=j by omega,Array.getElem?_eq_getElem (by omega),Option.map_some,qz,Array.getElem?_toList,Array.getElem?_eq_getElem (by omega)]
    rfl
 ·rw[List.getElem?_eq_none (by rw[fO];exact b),List.getElem?_eq_none (by rw[qI,qI,qS,qS,List.length_drop];omega)];rfl
theorem QY(d s:Tw)(a:Nat):(y7 d s a).size=d.size:=by
 show(cU d s a s.size).toArray.size=_;rw[List.size_toArray,fO]
theorem qQX(d s:Tw)(a:Nat)(h:d.size<=a∨s.size=0):y7 d s a=d:=by
 unfold y7
 have e:cU d s a s.size=d.data.toList:=by
  apply List.ext_getElem (by rw[fO];exact Array.length_toList.symm);intro j b c;rw[fO]at b;have e:∀(l:List UInt8) (h:j<l.length),l[j]=l.getD j 0:=fun l h=>by rw[qz,qC h];rfl
  rw[e _ (by rw[fO];exact b),e _ c,XF d s a s.size j b,qZ (by omega)]
 rw[e]
theorem Gh(s:Tw)(k:Nat)(w:World):(Builtin.firstCells 1 (min s.size k) (.string s)).run prog w = .ok ((byteCells s).take k).toArray w:=by
 have a:(byteCells s).length=s.size:=byteCells_length s
 have e:(byteCells s).take k=byteCells (s.extract 0 (min s.size k)):=by
  rw[Gc];rcases Nat.le_total s.size k with c|c
  ·rw[Nat.min_eq_left c,qd (by omega),qd (by omega)]
  ·rw[Nat.min_eq_right c]
 rw[e];show(pure (((s.extract 0 (min s.size k)).data.map fun b=>Value.int .u8 b.toNat)):Sem (Array Value)).run prog w=_;generalize s.extract 0 (min s.size k)=t;rw[Sem.run_pure];congr 1;apply Array.ext';unfold byteCells;rw[Array.toList_map]
theorem qQZ(w:World)(A:Option Addr)(c:Nat)(s:Tw)(j:TypeId):(Builtin.copy_ #[109,9] j #[.slice A 0 c,.string s]).run prog w = .ok (goInt 0) w:=by
 obtain⟨i,b,_,f,_⟩:=info_parts JC;have a:=Gh s 0 w;rw[Nat.min_zero,List.take_zero]at a;cases A<;>simp[Builtin.copy_,run_underlying Tryz.underlying109,Builtin.lenOf,sizeOf,typeInfo,b,f,a,storeCells]
theorem qQJ{b cap n:Nat}(h:uW w base (.slice (some ⟨b,0,none⟩) n cap) d){a:Nat}(C:a<=d.size)(s:Tw)(T:TypeId)(c:Nat):
  ∃r w',(Builtin.copy_ #[109,9] T #[.slice (some ⟨b,a,none⟩) (d.size-a) c,.string s]).run prog w = .ok r w'/\uW w' base (.slice (some ⟨b,0,none⟩) n cap) (y7 d s a)/\jG [b] w w':=by
 obtain rfl:n=d.size:=by
  rcases h.2 with⟨e,y⟩|⟨g,t,f,e,_⟩
  ·cases e
  ·simp only[Value.slice.injEq]at e;exact e.2.1
 obtain⟨i,J,_,R,_⟩:=info_parts JC;rcases h.2 with⟨e,y⟩|⟨g,t,f,e,H,p,z,A,U,B⟩
 ·cases e
 ·simp only[Value.slice.injEq,Option.some.injEq,Addr.mk.injEq,and_true,true_and]at e;obtain⟨rfl,rfl⟩:=e;have X:(byteCells d).length=d.size:=byteCells_length d;have S:(byteCells s).length=s.size:=byteCells_length s;have j:((byteCells s).take (d.size-a)).length=min s.size (d.size-a):=by rw[qS,S];omega
  have hst:=run_storeCells_at prog b a 5 ((byteCells s).take (d.size-a)) 0 f w p (by rw[j];omega) (fun u Q=>Gd s u (List.mem_of_mem_take Q));rw[Nat.add_zero,j]at hst;have o:(Builtin.firstCells 1 (min s.size (d.size-a)) (.string s)).run prog w = .ok ((byteCells s).take (d.size-a)).toArray w:=Gh s (d.size-a) w;have V:(byteCells d).length+0=d.size:=by omega
  refine⟨goInt (min s.size (d.size-a):Nat),w.setRow b (f.toList.take a++(byteCells s).take (d.size-a)++f.toList.drop (a+min s.size (d.size-a))).toArray, ?_,⟨by rw[byteCells_length,QY];omega,qY ⟨b,cap,_,by rw[QY],H,setRow_heap w b f _ _ _ p,by rw[QY];exact z,A, ?_, ?_⟩⟩, ?_⟩
  ·have P:s.size.min (d.size-a)=min s.size (d.size-a):=rfl;rw[<-P]at o hst ⊢;generalize O:s.size.min (d.size-a)=m at*;simp[Builtin.copy_,run_underlying Tryz.underlying109,Builtin.lenOf,sizeOf,typeInfo,J,R,O,o,hst]
  ·rw[List.size_toArray,qI,qI,qS,List.length_drop,j,Array.length_toList];omega
  ·have I:f.toList.length=cap:=(by rw[Array.length_toList];omega);rw[QY,qQQ d s a C,Nat.mul_one,<-B,Nat.mul_one];have N:(f.toList.take a++(byteCells s).take (d.size-a)).length=a+min s.size (d.size-a):=(by rw[qI,qS,j,I];omega);have W:a+min s.size (d.size-a)<=d.size:=(by omega);generalize (byteCells s).take (d.size-a)=q at*;generalize min s.size (d.size-a)=m at*;generalize f.toList=l at*;generalize d.size=n at*;rw[List.take_append,qd (by omega),N,List.take_take,List.drop_take,show min a n=a by omega]
  ·exact⟨rfl,rfl,rfl,by simp,fun k _ M=>setRow_other w b k _ (fun e=>M (by simp[e]))⟩
end
structure Ent where
 f:jU
 b:Nat
 v:Value
def Ent.nb(x:Ent):Tw × Nat:=(x.f.name,x.b)
def Ent.blocks(x:Ent):List Nat:=x.b::x.v.ownBlock.toList
def vY(w:World)(base:Nat)(x:Ent):Prop:=jY w x.b 177 #[x.v,.int .i64 (x.f.synced:Nat)]/\base<=x.b/\uW w base x.v x.f.data
def bL(x y:Ent):Prop:=x.b≠y.b/\∀b,x.v.ownBlock=some b->y.v.ownBlock≠some b
def fY(w:World)(base:Nat)(v:Value)(l:List Int)(K:List Nat):Prop :=
 (l=[]/\K=[]/\∃a c,v = .slice a 0 c)∨(w.ownsRow base 3 1 v l.length (sR l)/\K=v.ownBlock.toList)
def bM(w:World)(base:Nat)(vF:Value)(c:Nat)(keep:List Int)(K:List Nat):Prop :=
 (c=0/\vF = .pointer none/\K=[]) ∨
 ∃(b n:Nat) (f:Value) (a:List Nat),vF=ptr b/\c=n+1/\n<=9223372036854775807/\jY w b 225 #[.int .i64 (n:Nat),f]/\base<=b/\fY w base f (keep.take 400) a/\K=b::a
def Gl(g mb:Nat)(vF:Value)(D:jK):Array Value:=#[ptr g,.int .i64 (D.cap:Nat),.map (some mb),.bool (!D.down),.int .i64 (D.count:Nat),.int .i64 (D.qp:Nat),vF]
structure PAt(w:World)(base g mb:Nat)(vF:Value)(E:List Ent)(K:List Nat)(D:jK):Prop where
 qi:jY w g 74 (Gl g mb vF D)
 gb:base<=g
 xf:base<=mb
 xV:D.l=E.map Ent.f
 map:vc w mb (E.map Ent.nb)
 xZ:∀x∈E,vY w base x
 apart:E.Pairwise bL
 qw:uu D.l
 names:∀f∈D.l,ky f.name=true
 fail:bM w base vF D.fails D.keep K
def kq(g mb:Nat)(E:List Ent)(K:List Nat):List Nat:=g::mb::(K++E.flatMap Ent.blocks)
def uc: jL:=fun w base g F D=>∃mb vF E K,PAt w base g mb vF E K D/\F=kq g mb E K
section
variable {w w':World}{base:Nat}{G:List Nat}
theorem vY.qe{x:Ent}(h:vY w base x)(c:jG G w w')(a:∀b∈x.blocks,b ∉ G):vY w' base x :=
 ⟨h.1.qe c (a _ (by simp[Ent.blocks])),h.2.1,lC h.2.2 c (fun b f=>a b (by simp[Ent.blocks,f]))⟩
theorem vY.low{x:Ent}(h:vY w base x):∀b∈x.blocks,base<=b/\b<w.heap.size:=by
 intro b a;simp only[Ent.blocks,List.mem_cons,Option.mem_toList]at a;rcases a with rfl|a
 ·exact⟨h.2.1,h.1.lt⟩
 ·exact h.2.2.lt b a
theorem fY.qe{v:Value}{l:List Int}{K:List Nat}(h:fY w base v l K)(f:jG G w w')(c:∀b∈K,b ∉ G):fY w' base v l K:=by
 rcases h with h|⟨h,rfl⟩
 ·exact qX h
 ·exact qY ⟨lC h f (fun b a=>c b (by simp[a])),rfl⟩
theorem fY.low{v:Value}{l:List Int}{K:List Nat}(h:fY w base v l K):∀b∈K,base<=b/\b<w.heap.size:=by
 rcases h with⟨_,rfl,_⟩|⟨h,rfl⟩
 ·intro b a;cases a
 ·intro b a;exact h.lt b (by simpa using a)
theorem bM.qe{v:Value}{n:Nat}{l:List Int}{K:List Nat}(h:bM w base v n l K)(c:jG G w w')(a:∀b∈K,b ∉ G):bM w' base v n l K:=by
 rcases h with h|⟨b,m,s,f,i,j,k,o,p,q,rfl⟩
 ·exact qX h
 ·exact qY ⟨b,m,s,f,i,j,k,o.qe c (a _ (by simp)),p,q.qe c (fun x r=>a x (by simp[r])),rfl⟩
theorem bM.low{v:Value}{n:Nat}{l:List Int}{K:List Nat}(h:bM w base v n l K):∀b∈K,base<=b/\b<w.heap.size:=by
 rcases h with⟨_,_,rfl⟩|⟨b,m,r,k,o,p,q,c,f,i,rfl⟩
 ·intro b j;cases j
 ·intro x a;rcases qL.1 a with rfl|a
  ·exact⟨f,c.lt⟩
  ·exact i.low x a
variable {g mb:Nat}{vF:Value}{E:List Ent}{K:List Nat}{D:jK}
theorem vv{b:Nat}:b∈kq g mb E K↔b=g∨b=mb∨b∈K∨∃x∈E,b∈x.blocks:=by
 simp only[kq,List.mem_cons,List.mem_append,List.mem_flatMap]
theorem PAt.qe(h:PAt w base g mb vF E K D)(c:jG G w w')(a:∀b∈kq g mb E K,b ∉ G):PAt w' base g mb vF E K D :=
 ⟨h.qi.qe c (a _ (vv.2 (qX rfl))),h.gb,h.xf,h.xV,h.map.qe c (a _ (vv.2 (qY (qX rfl)))),
  fun x i=>(h.xZ x i).qe c (fun b f=>a b (vv.2 (qY (qY (qY ⟨x,i,f⟩))))),h.apart,h.qw,h.names,h.fail.qe c (fun b f=>a b (vv.2 (qY (qY (qX f)))))⟩
theorem PAt.low(h:PAt w base g mb vF E K D):∀b∈kq g mb E K,base<=b/\b<w.heap.size:=by
 intro b a;rcases vv.1 a with rfl|rfl|a|⟨x,c,a⟩
 ·exact⟨h.gb,h.qi.lt⟩
 ·exact⟨h.xf,h.map.lt⟩
 ·exact h.fail.low b a
 ·exact(h.xZ x c).low b a
theorem PAt.at(h:PAt w base g mb vF E K D):uc w base g (kq g mb E K) D:=⟨mb,vF,E,K,h,rfl⟩
theorem fY.ne{v:Value}{l:List Int}{b:Nat}{t:TypeId}{cs:Array Value}(h:fY w base v l K)(a:jY w b t cs)(f:3≠t):b ∉ K:=by
 rcases h with⟨_,rfl,_⟩|⟨h,rfl⟩
 ·simp
 ·intro c;exact vR h a f (by simpa using c)
theorem bM.ne{v:Value}{n:Nat}{l:List Int}{b:Nat}{t:TypeId}{cs:Array Value}(h:bM w base v n l K)(c:jY w b t cs)(j:3≠t)(k:225≠t):b ∉ K:=by
 rcases h with⟨_,_,rfl⟩|⟨p,m,y,o,q,r,s,f,u,i,rfl⟩
 ·simp
 ·intro a;rcases qL.1 a with rfl|a
  ·exact f.xP c k rfl
  ·exact i.ne c j a
theorem bM.xT{v:Value}{n:Nat}{l:List Int}{L:List (Tw × Nat)}(h:bM w base v n l K)(c:vc w mb L):mb ∉ K:=by
 rcases h with⟨_,_,rfl⟩|⟨j,m,r,i,k,o,p,f,q,b,rfl⟩
 ·simp
 ·intro a;rcases qL.1 a with rfl|a
  ·exact c.ne f rfl
  ·rcases b with⟨_,rfl,_⟩|⟨b,rfl⟩
   ·cases a
   ·exact c.own_ne b (by simpa using a)
theorem bM.zO{v:Value}{n:Nat}{l:List Int}{base' size m:Nat}{t:TypeId}{u:Value}{xs:List Value}(h:bM w base v n l K)(i:w.ownsRow base' t size u m xs)(k:t≠3)(o:t≠225):∀b,u.ownBlock=some b->b ∉ K:=by
 intro b f a;rcases h with⟨_,_,rfl⟩|⟨q,m,A,p,r,s,y,j,z,c,rfl⟩
 ·cases a
 ·rcases qL.1 a with rfl|a
  ·exact vR i j o f
  ·rcases c with⟨_,rfl,_⟩|⟨c,rfl⟩
   ·cases a
   ·exact lD i c k b (by simpa using a) f
theorem vY.ne{x:Ent}{b:Nat}{t:TypeId}{cs:Array Value}(h:vY w base x)(c:jY w b t cs)(f:177≠t)(i:5≠t):b ∉ x.blocks:=by
 intro a;simp only[Ent.blocks,List.mem_cons,Option.mem_toList]at a;rcases a with rfl|a
 ·exact h.1.xP c f rfl
 ·exact vR h.2.2 c i a
theorem vY.xT{x:Ent}{L:List (Tw × Nat)}(h:vY w base x)(b:vc w mb L):mb ∉ x.blocks:=by
 intro a;simp only[Ent.blocks,List.mem_cons,Option.mem_toList]at a;rcases a with rfl|a
 ·exact b.ne h.1 rfl
 ·exact b.own_ne h.2.2 a
theorem vY.apart{x y:Ent}(f:vY w base x)(i:vY w base y)(h:bL x y):∀b∈x.blocks,b ∉ y.blocks:=by
 intro b c a;simp only[Ent.blocks,List.mem_cons,Option.mem_toList]at c a;rcases c with rfl|c<;>rcases a with a|a
 ·exact h.1 a
 ·exact vR i.2.2 f.1 (by decide) a
 ·subst a;exact vR f.2.2 i.1 (by decide) c
 ·exact h.2 b c a
theorem vY.xt{x:Ent}{v:Value}{n:Nat}{l:List Int}(c:vY w base x)(h:bM w base v n l K):∀b∈x.blocks,b ∉ K:=by
 intro b a;simp only[Ent.blocks,List.mem_cons,Option.mem_toList]at a;rcases a with rfl|a
 ·exact h.ne c.1 (by decide) (by decide)
 ·exact h.zO c.2.2 (by decide) (by decide) b a
theorem PAt.xd(h:PAt w base g mb vF E K D){D':jK}{j:Value}{k:List Nat}(c:D'.l=D.l)(a:jY w' g 74 (Gl g mb j D'))(n:jG G w w')(m:∀b∈G,b=g∨b∈K)(o:bM w' base j D'.fails D'.keep k):PAt w' base g mb j E k D':=by
 refine⟨a,h.gb,h.xf,by rw[c];exact h.xV,h.map.qe n (fun f=>?_),fun x i=>(h.xZ x i).qe n (fun b a f=>?_),h.apart,by rw[c];exact h.qw,by rw[c];exact h.names,o⟩
 ·rcases m _ f with e|e
  ·exact h.map.ne h.qi e
  ·exact h.fail.xT h.map e
 ·rcases m _ f with e|e
  ·exact(h.xZ x i).ne h.qi (by decide) (by decide) (by rw[<-e];exact a)
  ·exact(h.xZ x i).xt h.fail b a e
theorem PAt.zA(h:PAt w base g mb vF E K D)(f:jG [g] w w'):bM w' base vF D.fails D.keep K :=
 h.fail.qe f (fun b a c=>by
  obtain rfl:b=g:=by simpa using c
  exact h.fail.ne h.qi (by decide) (by decide) a)
theorem PAt.xi(h:PAt w base g mb vF E K D)(c:Bool):PAt (w.setCell ⟨g,3,none⟩ (.bool (!c))) base g mb vF E K { D with down:=c } :=
 h.xd (G:=[g]) rfl (h.qi.put 3 _) ((jG.refl _ w).setCell (qX (by simp)) _) (fun b a=>qX (by simpa using a)) (h.zA ((jG.refl _ w).setCell (qX (by simp)) _))
theorem PAt.zj(h:PAt w base g mb vF E K D)(c:Nat):PAt (w.setCell ⟨g,4,none⟩ (.int .i64 (c:Nat))) base g mb vF E K { D with count:=c } :=
 h.xd (G:=[g]) rfl (h.qi.put 4 _) ((jG.refl _ w).setCell (qX (by simp)) _) (fun b a=>qX (by simpa using a)) (h.zA ((jG.refl _ w).setCell (qX (by simp)) _))
theorem PAt.zt(h:PAt w base g mb vF E K D)(l:List Int):PAt (w.setCell ⟨g,6,none⟩ (.pointer none)) base g mb (.pointer none) E [] { D with fails:=0,keep:=l } :=
 h.xd (G:=[g]) rfl (h.qi.put 6 _) ((jG.refl _ w).setCell (qX (by simp)) _) (fun b a=>qX (by simpa using a)) (qX ⟨rfl,rfl,rfl⟩)
theorem PAt.xa(h:PAt w base g mb vF E K D){k:Nat}{x:Ent}(r:E[k]? = some x)(x':Ent)(q:x'.b=x.b)(Q:x'.f.name=x.f.name)(H:jG G w w')(A:∀b∈G,b∈x.blocks)(T:vY w' base x')
  (hv:∀b,x'.v.ownBlock=some b->x.v.ownBlock=some b∨w.heap.size<=b):PAt w' base g mb vF (E.set k x') K { D with l:=D.l.set k x'.f }:=by
 have hx:=qM r;have s:=(qP.1 r).1;have B:=h.xZ x hx
 have Z:(E.set k x').map Ent.nb=E.map Ent.nb:=by
  rw[List.map_set];apply List.ext_getElem?;intro j;rw[List.getElem?_set];by_cases e:k=j
  ·subst e;rw[qV rfl,qV (by simpa using s),qu,r];show some (x'.f.name,x'.b)=some (x.f.name,x.b);rw[q,Q]
  ·rw[qZ e]
 have O:∀(j:Nat) (y:Ent),j≠k->E[j]? = some y->(∀b∈x.blocks,b ∉ y.blocks)/\bL x' y/\bL y x':=by
  intro j y m t;have P:=h.xZ y (qM t);have N:=(qP.1 t).1;have C:=List.pairwise_iff_getElem.1 h.apart;have u:E[k]=x:=by rw[qC s]at r;simpa using r
  have z:E[j]=y:=by rw[qC N]at t;simpa using t
  have I:bL x y:=by
   rcases Nat.lt_or_ge k j with c|c
   ·have:=C k j s N c;rw[u,z]at this;exact this
   ·have:=C j k N s (by omega);rw[u,z]at this;exact⟨fun e=>this.1 e.symm,fun b n p=>this.2 b p n⟩
  have J:bL x' y:=⟨by rw[q];exact I.1,fun b n p=>by
   rcases hv b n with c|c
   ·exact I.2 b c p
   ·have:=(P.2.2.lt b p).2;omega⟩
  exact⟨B.apart P I,J,⟨fun e=>J.1 e.symm,fun b n p=>J.2 b p n⟩⟩
 have W:g ∉ x.blocks:=B.ne h.qi (by decide) (by decide)
 have Y:∀(j:Nat),((D.l.set k x'.f)[j]?).map jU.name=(D.l[j]?).map jU.name:=by
  intro j;rw[List.getElem?_set];by_cases e:k=j
  ·subst e;rw[qV rfl,qV (by rw[h.xV];simpa using s),h.xV,qu,r];simp[Q]
  ·rw[qZ e]
 have R:(D.l.set k x'.f).map jU.name=D.l.map jU.name:=by
  apply List.ext_getElem?;intro j;rw[qu,qu];exact Y j
 refine⟨h.qi.qe H (fun o=>W (A _ o)),h.gb,h.xf,by show D.l.set k x'.f=_;rw[h.xV,List.map_set], ?_,fun y t=>?_, ?_, ?_, ?_,h.fail.qe H (fun b q o=>B.xt h.fail b (A b o) q)⟩
 ·rw[Z];exact h.map.qe H (fun o=>B.xT h.map (A _ o))
 ·obtain⟨j,m⟩:=List.getElem?_of_mem t;rw[List.getElem?_set]at m;by_cases e:k=j
  ·rw[qV e,qV s]at m;obtain rfl:x'=y:=(by simpa using m);exact T
  ·rw[qZ e]at m;exact(h.xZ y (qM m)).qe H (fun b q o=>(O j y (fun c=>e c.symm) m).1 b (A b o) q)
 ·rw[List.pairwise_iff_getElem];intro i j M m X;rw[List.length_set]at M m;rw[List.getElem_set,List.getElem_set];have C:=List.pairwise_iff_getElem.1 h.apart i j M m X;by_cases u:k=i
  ·rw[qV u,qZ (by omega)];exact(O j _ (by omega) (qC m)).2.1
  ·rw[qZ u];by_cases z:k=j
   ·rw[qV z];exact(O i _ (by omega) (qC M)).2.2
   ·rw[qZ z];exact C
 ·show uu (D.l.set k x'.f);have:(D.l.map jU.name).Pairwise (fun a b=>vC a b=true):=List.pairwise_map.2 h.qw;rw[<-R]at this;exact List.pairwise_map.1 this
 ·intro f U;have n:f.name∈(D.l.set k x'.f).map jU.name:=qN.2 ⟨f,U,rfl⟩;rw[R]at n;obtain⟨S,V,e⟩:=qN.1 n;rw[<-e];exact h.names S V
theorem PAt.xq(h:PAt w base g mb vF E K D)(E':List Ent)(l:List jU)(o:l=E'.map Ent.f)(a:vc w' mb (E'.map Ent.nb))(i:jG [mb] w w')(j:∀x∈E',vY w base x)(m:E'.Pairwise bL)(q:uu l)(p:∀f∈l,ky f.name=true):PAt w' base g mb vF E' K { D with l:=l }:=by
 refine⟨h.qi.qe i (fun n=>h.map.ne h.qi (by have:=qH.1 n;exact this.symm)),h.gb,h.xf,o,a,fun x k=>(j x k).qe i (fun b c a=>?_),m,q,p,h.fail.qe i (fun b c a=>?_)⟩
 ·obtain rfl:b=mb:=by simpa using a
  exact(j x k).xT h.map c
 ·obtain rfl:b=mb:=by simpa using a
  exact h.fail.xT h.map c
end
def gu(chs:List (List Tw)):List Tw:=chs.getLast?.getD []
def kC(chs:List (List Tw)):Nat:=if chs.length=0 then 0 else 4096*(chs.length-1)+(12+kR (gu chs))
def jO(i:Nat):List (List Tw)->List (Nat × Tw)
 | []=>[]
 | ps::r=>yD (4096*i+12) ps++jO (i+1) r
theorem oP: ∀(a b:List (List Tw)) (i:Nat),jO i (a++b)=jO i a++jO (i+a.length) b
 | [],b,i=>rfl
 | x::a,b,i=>by
   show yD _ x++jO (i+1) (a++b)=yD _ x++jO (i+1) a++_;rw[oP a b (i+1),qb,qk,show i+1+a.length=i+(a.length+1) by omega]
theorem rE(i:Nat)(a:List Tw):jO i [a]=yD (4096*i+12) a:=by show yD _ a++[]=_;rw[List.append_nil]
theorem JD{i j:Nat}(hi:i<=999999)(a:j<=999999)(h:nmC i=nmC j):i=j:=by
 have:=Mi 99 hi a;rw[show nmS 99 (i:Nat)=nmS 99 (j:Nat) from h]at this;simp at this;omega
theorem Gm{i:Nat}(h:i<=999999):nmC i≠jj:=fun e=>by
 have a:=nj (c:=99) h;rw[show nmS 99 (i:Nat)=jj from e]at a;exact absurd a (by decide)
theorem lr{i:Nat}(h:i<=999999):isC (nmC i)=true/\npN (nmC i)=i:=by
 obtain⟨a,b,c⟩:=Xc (c:=99) (by decide) h;exact⟨by unfold isC;rw[a,b];rfl,c⟩
theorem qQK{i:Nat}(h:i<=999999):ky (nmC i)=true:=by
 unfold ky;rw[nj h];decide
structure kx(D:jK)(chs:List (List Tw)):Prop where
 up:D.down=false
 fails:D.fails=0
 many:chs.length<=200
 files:∀i ps,chs[i]? = some ps->∃f,jW D.l (nmC i)=some f/\f.data=bF i ps
 small:∀ps∈chs,12+kR ps<=4096/\∀p∈ps,p.size<=2000
 only:∀f∈D.l,isC f.name=true->∃i,i<chs.length/\f.name=nmC i
 x8:jW D.l jj=none
structure uN(D:jK)(L:jN)(chs:List (List Tw)):Prop where
 qp:D.qp=L.qp
 xC:L.chunks=chs.length
 endp:L.endp=kC chs
 sure:L.sure<=L.endp
structure ks(D E:jK):Prop where
 names:E.l.map jU.name=D.l.map jU.name
 data:∀m,(jW E.l m).map jU.data=(jW D.l m).map jU.data
 used:jA E.l=jA D.l
 cap:E.cap=D.cap
 qp:E.qp=D.qp
 down:E.down=D.down
 fails:E.fails=D.fails
theorem ks.refl(D:jK):ks D D:=⟨rfl,fun _=>rfl,rfl,rfl,rfl,rfl,rfl⟩
theorem ks.trans{A B C:jK}(h:ks A B)(k:ks B C):ks A C:=⟨k.names.trans h.names,fun m=>(k.data m).trans (h.data m),k.used.trans h.used,k.cap.trans h.cap,k.qp.trans h.qp,k.down.trans h.down,k.fails.trans h.fails⟩
theorem ks.count(D:jK)(c:Nat):ks D { D with count:=c }:=⟨rfl,fun _=>rfl,rfl,rfl,rfl,rfl,rfl⟩
theorem ks.length{D E:jK}(h:ks D E):E.l.length=D.l.length:=by have:=congrArg List.length h.names;simpa using this
theorem ks.none{D E:jK}(h:ks D E)(m:Tw):jW E.l m=none↔jW D.l m=none:=by
 have:=h.data m;cases a:jW E.l m<;>cases b:jW D.l m<;>simp_all
theorem ks.synced(D:jK)(n:Tw):ks D { D with l:=jd D.l (jD D.l n) (fun f=>{ f with synced:=f.data.size }) }:=by
 refine⟨lS (fun f=>{ f with synced:=f.data.size }) (fun _=>rfl) _ _,fun m=>?_,VU (fun f=>{ f with synced:=f.data.size }) (fun _=>rfl),rfl,rfl,rfl,rfl⟩;show(jW (jd D.l (jD D.l n) _) m).map _=_;rw[lR (fun f=>{ f with synced:=f.data.size }) (fun _=>rfl)];split
 ·rename_i e;rw[e];cases jW D.l n<;>rfl
 ·rfl
theorem QU{l:List jU}{f:jU}(h:f∈l):f.name∈l.map jU.name:=qN.2 ⟨f,h,rfl⟩
theorem kx.same{D E:jK}{chs:List (List Tw)}(g:kx D chs)(h:ks D E):kx E chs:=by
 refine⟨h.down.trans g.up,h.fails.trans g.fails,g.many,fun i p o=>?_,g.small,fun f m c=>?_,(h.none _).2 g.x8⟩
 ·obtain⟨f,j,k⟩:=g.files i p o;have:=h.data (nmC i);rw[j]at this;cases b:jW E.l (nmC i) with
  | none=>rw[b]at this;cases this
  | some a =>
    rw[b]at this;exact⟨a,rfl,by have e:a.data=f.data:=(by simpa using this);rw[e,k]⟩
 ·have:=QU m;rw[h.names]at this;obtain⟨a,n,e⟩:=qN.1 this;rw[<-e]at c ⊢;exact g.only a n c
section
variable {D:jK}{L:jN}{chs:List (List Tw)}
theorem QG(g:kx D chs)(a:uN D L chs):vq D L=0:=by
 unfold vq;rw[qZ (by simp[g.up]),qV a.qp]
theorem rF(g:kx D chs)(h:0<chs.length):∃f,jW D.l (nmC (chs.length-1))=some f/\f.data=bF (chs.length-1) (gu chs)/\f.data.size=12+kR (gu chs)/\12+kR (gu chs)<=4096:=by
 have b:chs[chs.length-1]? = some (gu chs):=by
  unfold gu;rw[List.getLast?_eq_getElem?];rw[qC (by omega)];rfl
 obtain⟨f,c,a⟩:=g.files _ _ b;have i:=g.many;exact⟨f,c,a,by rw[a,tf (by omega)],(g.small _ (qM b)).1⟩
theorem Gn(g:kx D chs)(b:uN D L chs):∃E,vA D L=(0,E, { L with sure:=L.endp })/\ks D E/\E.count=D.count:=by
 unfold vA;rw[b.xC];by_cases a:chs.length=0
 ·rw[qV a];exact⟨D,rfl,ks.refl D,rfl⟩
 ·rw[qZ a];obtain⟨f,c,_⟩:=rF g (by omega);rw[XM g.up g.fails c,qV rfl];exact⟨_,rfl,ks.synced D _,rfl⟩
theorem qQV(g:kx D chs)(a:uN D L chs):∃E,vl D L=(0,E, { L with sure:=L.endp })/\ks D E/\E.count=D.count:=by
 unfold vl;rw[qZ (by simp[QG g a])];exact Gn g a
theorem mQ(a:List (List Tw))(x:List Tw):gu (a++[x])=x:=by unfold gu;simp
theorem QW(a:List (List Tw))(x:List Tw):kC (a++[x])=4096*a.length+(12+kR x):=by
 unfold kC;rw[qI,mQ,qZ (by simp)];simp
theorem Gp(h:0<chs.length):∃a x,chs=a++[x]:=by
 have b:chs≠[]:=by intro e;rw[e]at h;simp at h
 exact⟨chs.dropLast,chs.getLast b,(List.dropLast_concat_getLast b).symm⟩
def gg(chs:List (List Tw))(p:Tw):Bool:=decide (0<chs.length/\12+kR (gu chs)+(p.size+12)<=4096)
def plQ(chs:List (List Tw))(p:Tw):Nat:=if gg chs p=true then 4096*(chs.length-1)+(12+kR (gu chs)) else 4096*chs.length+12
def plC(chs:List (List Tw))(p:Tw):List (List Tw):=if gg chs p=true then chs.dropLast++[gu chs++[p]] else chs++[[p]]
structure rH(D:jK)(L:jN)(chs:List (List Tw))(p:Tw)(q:Nat)(E:jK)(M:jN)(chs':List (List Tw)):Prop where
 xX:kx E chs'
 log:uN E M chs'
 all:jO 0 chs'=jO 0 chs++[(q,p)]
 endp:M.endp=q+(p.size+12)
 behind:L.endp<=q
 sure:M.sure<=q
 cap:E.cap=D.cap
 count:E.count=D.count
 length:E.l.length+chs.length=D.l.length+chs'.length
 used:jA E.l<=jA D.l+(p.size+24)
 room:jA E.l+6000<=D.cap
 jZ:chs'.length<=chs.length+1
 place:q=plQ chs p
 chunks:chs'=plC chs p
 sureEq:M.sure=if gg chs p=true then L.sure else L.endp
 others:∀k,isC k=false->(jW E.l k).map jU.data=(jW D.l k).map jU.data
 names:∀k∈E.l.map jU.name,k∈D.l.map jU.name∨∃i,i<chs'.length/\k=nmC i
theorem qQY{a:List (List Tw)}{x:List Tw}(g:kx D (a++[x])):∃f,jW D.l (nmC a.length)=some f/\f.data=bF a.length x/\f.data.size=12+kR x/\12+kR x<=4096/\a.length<=199:=by
 obtain⟨f,c,b,i,j⟩:=rF g (by simp);rw[mQ]at b i j;rw[qI,List.length_singleton,Nat.add_sub_cancel]at c b;have:=g.many;rw[qI,List.length_singleton]at this;exact⟨f,c,b,i,j,by omega⟩
theorem qQU{a:List (List Tw)}{x:List Tw}(g:kx D (a++[x]))(c:uN D L (a++[x]))(p:Tw)(Y:p.size<=2000)(t:12+kR x+(p.size+12)<=4096)(hr:jA D.l+(p.size+12)+6000<=D.cap):
  ∃q E M Q,bu D L p=(q,0,E,M)/\rH D L (a++[x]) p q E M Q:=by
 obtain⟨f,r,R,S,h4,h5⟩:=qQY g;have hm:=g.many;have O:=nP g.up r;rw[S]at O;have I:L.chunks=a.length+1:=by rw[c.xC];simp
 have X:ftS ((12+kR x:Nat):Int) p=true:=by unfold ftS;exact qA (by omega)
 have V:uJ D L p=(a.length,12+kR x,0):=by
  unfold uJ;rw[I,qZ (by omega),Nat.add_sub_cancel,O,qV rfl,qV X]
 have aa:dr D (jS p)=true:=by unfold dr;rw[bB];exact qA (by omega)
 have W:=XN (s:=jS p) g.up g.fails r (by rw[bB];omega)
 have U:onD (fun E=>gI E L (jS p)) D L=(0,uQ D (nmC a.length) (jS p),L):=by
  show((gI D L (jS p)).1,(gI D L (jS p)).2,L)=_;unfold gI;rw[qZ (by rw[aa];decide),I,Nat.add_sub_cancel,W]
 have T:bu D L p=(4096*a.length+(12+kR x),0,uQ D (nmC a.length) (jS p), { L with chunks:=a.length+1,endp:=4096*a.length+(12+kR x)+(jS p).size }):=by
  unfold bu;rw[qZ (by simp[QG g c]),qZ (by omega),V];dsimp only;rw[qZ (by simp),qZ (show ¬a.length=L.chunks by omega),U];rfl
 have u:∀m,jW (uQ D (nmC a.length) (jS p)).l m=if m=nmC a.length then some { f with data:=f.data++jS p } else jW D.l m:=by
  intro m;show jW (jd D.l (jD D.l (nmC a.length)) (fun f=>{ f with data:=f.data++jS p })) m=_;rw[lR (fun f=>{ f with data:=f.data++jS p }) (fun _=>rfl),r];rfl
 have B:(uQ D (nmC a.length) (jS p)).l.map jU.name=D.l.map jU.name:=lS (fun f=>{ f with data:=f.data++jS p }) (fun _=>rfl) _ _
 have ae:jA (uQ D (nmC a.length) (jS p)).l=jA D.l+(p.size+12):=by
  have b:=dA D.l (nmC a.length);rw[r]at b;have:=mB D.l _ f (fun f=>{ f with data:=f.data++jS p }) b;rw[show(({ f with data:=f.data++jS p }:jU)).data.size=f.data.size+(p.size+12) by show(f.data++jS p).size=_;rw[qy,bB]]at this;show jA (jd D.l _ _)=_;omega
 have ab:L.endp=4096*a.length+(12+kR x):=by rw[c.endp,QW]
 have ac:(uQ D (nmC a.length) (jS p)).l.length=D.l.length:=by
  have:=congrArg List.length B;simpa using this
 have ad:=c.sure;refine⟨_,_,_,a++[x++[p]],T, ?_⟩;have A:(a++[x++[p]]).length=a.length+1:=by simp
 have N:(a++[x]).length=a.length+1:=by simp
 refine⟨⟨g.up,g.fails,by omega,fun i o n=>?_,fun o Z=>?_,fun y C H=>?_, ?_⟩,⟨c.qp, ?_, ?_, ?_⟩, ?_, ?_, ?_, ?_,rfl,rfl,by omega,by omega,by omega,by omega, ?_, ?_, ?_, ?_, ?_⟩
 ·rw[u];by_cases e:i=a.length
  ·subst e;rw[qV rfl];rw[List.getElem?_append_right (qK _),Nat.sub_self]at n;obtain rfl:x++[p]=o:=(by simpa using n);refine⟨_,rfl, ?_⟩;show f.data++jS p=_;rw[R];exact(Us _ _ _).symm
  ·have J:i<a.length:=by
    have:=(qP.1 n).1;rw[A]at this;omega
   rw[qZ (fun q=>e (JD (by omega) (by omega) q))];rw[List.getElem?_append_left J]at n;exact g.files i o (by rw[List.getElem?_append_left J];exact n)
 ·rcases qB.1 Z with h|h
  ·exact g.small o (qG _ h)
  ·obtain rfl:o=x++[p]:=(by simpa using h);have hs:=g.small x (qJ _ (qH.2 rfl));refine⟨by rw[td];omega,fun y C=>?_⟩;rcases qB.1 C with h|h
   ·exact hs.2 y h
   ·obtain rfl:y=p:=(by simpa using h);exact Y
 ·have P:=QU C;rw[B]at P;obtain⟨z,hz,e⟩:=qN.1 P;rw[<-e]at H ⊢;rw[A,<-N];exact g.only z hz H
 ·rw[u,qZ (fun q=>Gm (by omega) q.symm)];exact g.x8
 ·rw[A]
 ·rw[QW,td,bB];show 4096*a.length+(12+kR x)+(p.size+12)=_;omega
 ·show L.sure<=4096*a.length+(12+kR x)+(jS p).size;omega
 ·rw[oP,oP,rE,rE,Zs,<-qb,Nat.zero_add];rw[show 4096*a.length+12+kR x=4096*a.length+(12+kR x) by omega]
 ·show 4096*a.length+(12+kR x)+(jS p).size=_;rw[bB]
 ·omega
 ·show L.sure<=_;omega
 ·have j:gg (a++[x]) p=true:=by unfold gg;rw[mQ];exact qA ⟨by omega,t⟩
  unfold plQ;rw[qV j,mQ,N,Nat.add_sub_cancel]
 ·have j:gg (a++[x]) p=true:=by unfold gg;rw[mQ];exact qA ⟨by omega,t⟩
  unfold plC;rw[qV j,mQ,List.dropLast_concat]
 ·have j:gg (a++[x]) p=true:=by unfold gg;rw[mQ];exact qA ⟨by omega,t⟩
  rw[qV j]
 ·intro k b;rw[u,qZ (fun e=>by rw[e,(lr (i:=a.length) (by omega)).1]at b;cases b)]
 ·intro k b;rw[B]at b;exact qX b
end
theorem Gs(D:jK)(L:jN)(f:jK->jN->Nat × jK × jN):yx (0,D,L) f=f D L:=rfl
theorem Gt{f:jK->Nat × jK}{D E:jK}{L:jN}{k:jK->jN->Nat × jK × jN}(h:f D=(0,E)):yx (onD f D L) k=k E L:=by simp[yx,onD,h]
section
variable {D:jK}{L:jN}{chs:List (List Tw)}
theorem qQG(g:kx D chs)(h:chs.length<=199):jW D.l (nmC chs.length)=none:=by
 rw[fS];intro f b e;obtain⟨i,c,a⟩:=g.only f b (by rw[e];exact(lr (by omega)).1);rw[e]at a;have:=JD (by omega) (by omega) a;omega
theorem qQW{n:Nat}{p:Tw}(a:p.size<=2000)(h:¬(n+(p.size+12)<=4096)):ftS (n:Nat) p=false:=by unfold ftS;exact qW (by omega)
theorem qQA(g:kx D chs)(b:uN D L chs)(p:Tw)(k:p.size<=2000)(j:0<chs.length->¬12+kR (gu chs)+(p.size+12)<=4096):uJ D L p=(chs.length,12,0):=by
 unfold uJ;rw[b.xC];by_cases a:chs.length=0
 ·rw[qV a,a]
 ·rw[qZ a];obtain⟨f,c,m,i,n⟩:=rF g (by omega);have l:=nP g.up c;rw[l,qV rfl,i]
  rw[qZ (by
   rw[qQW k (by have:=j (by omega);omega)];decide)]
theorem qQB(g:kx D chs)(r:uN D L chs)(p:Tw)(W:p.size<=2000)(J:0<chs.length->¬12+kR (gu chs)+(p.size+12)<=4096)(hm:D.l.length<400)(S:chs.length<=199)(hr:jA D.l+(p.size+24)+6000<=D.cap):
  ∃q E M Y,bu D L p=(q,0,E,M)/\rH D L chs p q E M Y:=by
 obtain⟨a,af,o,ag⟩:=Gn g r;have j:=g.same o;have c:(hdS (chs.length:Nat)++jS p).size=p.size+24:=by rw[qy,mN S,bB];omega
 have ae:dr D (hdS (chs.length:Nat)++jS p)=true:=by unfold dr;rw[c];exact qA (by omega)
 have V:=qQG j S;have aa:=VG j.up j.fails (qQK (i:=chs.length) (by omega)) V (by rw[o.length];exact hm);have N:=fun m=>XL (l:=a.l) (f:=⟨nmC chs.length,ByteArray.empty,0⟩) V m
 have T:=XN (D:={ a with l:=kY a.l ⟨nmC chs.length,ByteArray.empty,0⟩ }) (n:=nmC chs.length) (s:=hdS (chs.length:Nat)++jS p) (f:=⟨nmC chs.length,ByteArray.empty,0⟩) j.up j.fails (by
   show jW (kY a.l _) _=_;rw[N,qV rfl]) (by
   show jA (kY a.l _)+_<=a.cap;rw[nN,c,o.used,o.cap];show jA D.l+0+_<=_;omega)
 obtain⟨b,B⟩:∃b,b=uQ { a with l:=kY a.l ⟨nmC chs.length,ByteArray.empty,0⟩ } (nmC chs.length) (hdS (chs.length:Nat)++jS p):=⟨_,rfl⟩
 rw[<-B]at T
 have hB:ch D L (jS p)=(0,b, { L with sure:=L.endp }):=by
  unfold ch;rw[r.xC,qZ (by rw[ae];simp;omega),af,Gs,Gt aa];show((j9 _ _ _).1,(j9 _ _ _).2,_)=_;rw[T,r.xC]
 have hA:bu D L p=(4096*chs.length+12,0,b, { L with sure:=L.endp,chunks:=chs.length+1,endp:=4096*chs.length+12+(jS p).size }):=by
  unfold bu;rw[qZ (by simp[QG g r]),qZ (by omega),qQA g r p W J];dsimp only;rw[qZ (by simp),qV r.xC.symm,hB];rfl
 have O:∀m,jW b.l m=if m=nmC chs.length then some ⟨nmC chs.length,hdS (chs.length:Nat)++jS p,0⟩ else jW a.l m:=by
  intro m;rw[B];show jW (jd (kY a.l ⟨nmC chs.length,ByteArray.empty,0⟩) (jD (kY a.l ⟨nmC chs.length,ByteArray.empty,0⟩) (nmC chs.length)) (fun f=>{ f with data:=f.data++(hdS (chs.length:Nat)++jS p) })) m=_;rw[lR (fun f=>{ f with data:=f.data++(hdS (chs.length:Nat)++jS p) }) (fun _=>rfl),N,qV rfl,N];by_cases e:m=nmC chs.length
  ·rw[qV e,qV e];show some (⟨nmC chs.length,ByteArray.empty++(hdS (chs.length:Nat)++jS p),0⟩:jU)=_;rw[ByteArray.empty_append]
  ·rw[qZ e,qZ e,qZ e]
 have Q:b.l.map jU.name=(kY a.l ⟨nmC chs.length,ByteArray.empty,0⟩).map jU.name:=by
  rw[B];exact lS (fun f=>{ f with data:=f.data++(hdS (chs.length:Nat)++jS p) }) (fun _=>rfl) _ _
 have ak:jA b.l=jA D.l+(p.size+24):=by
  have t:=dA (kY a.l ⟨nmC chs.length,ByteArray.empty,0⟩) (nmC chs.length);rw[N,qV rfl]at t;have A:=mB _ _ _ (fun f=>{ f with data:=f.data++(hdS (chs.length:Nat)++jS p) }) t;rw[nN,o.used]at A;have e:(ByteArray.empty++(hdS (chs.length:Nat)++jS p)).size=p.size+24:=by rw[ByteArray.empty_append,c]
  rw[B];show jA (jd _ _ _)=_;have h2:jA (jd (kY a.l ⟨nmC chs.length,ByteArray.empty,0⟩) (jD (kY a.l ⟨nmC chs.length,ByteArray.empty,0⟩) (nmC chs.length)) (fun f=>{ f with data:=f.data++(hdS (chs.length:Nat)++jS p) }))+0=jA D.l+0+(ByteArray.empty++(hdS (chs.length:Nat)++jS p)).size:=A;rw[e]at h2;omega
 have ai:b.l.length=D.l.length+1:=by
  have A:=congrArg List.length Q;rw[qj,qj,pI,o.length]at A;exact A
 have aj:=g.many;have ab:=r.endp
 have ah:L.endp<=4096*chs.length:=by
  rw[ab];unfold kC;split
  ·omega
  ·obtain⟨f,_,_,_,h4⟩:=rF g (by omega);omega
 have C:b.cap=D.cap/\b.count=D.count/\b.qp=D.qp/\b.down=false/\b.fails=0:=by
  rw[B];exact⟨o.cap,ag,o.qp,j.up,j.fails⟩
 refine⟨_,_,_,chs++[[p]],hA, ?_⟩;have P:(chs++[[p]]).length=chs.length+1:=by simp
 refine⟨⟨C.2.2.2.1,C.2.2.2.2,by omega,fun i I u=>?_,fun I ad=>?_,fun y R U=>?_, ?_⟩,⟨C.2.2.1.trans r.qp, ?_, ?_, ?_⟩, ?_, ?_, ?_, ?_,C.1,C.2.1,by omega,by omega,by omega,by omega, ?_, ?_, ?_, ?_, ?_⟩
 ·rw[O];by_cases e:i=chs.length
  ·subst e;rw[qV rfl];rw[List.getElem?_append_right (qK _),Nat.sub_self]at u;obtain rfl:[p]=I:=(by simpa using u);exact⟨_,rfl,rfl⟩
  ·have ac:i<chs.length:=by
    have:=(qP.1 u).1;rw[P]at this;omega
   rw[qZ (fun q=>e (JD (by omega) (by omega) q))];rw[List.getElem?_append_left ac]at u;exact j.files i I u
 ·rcases qB.1 ad with h|h
  ·exact g.small I h
  ·obtain rfl:I=[p]:=(by simpa using h);refine⟨by show 12+(p.size+12+0)<=4096;omega,fun y R=>?_⟩;obtain rfl:y=p:=(by simpa using R);exact W
 ·have X:=QU R;rw[Q]at X;obtain⟨z,c,e⟩:=qN.1 X;rw[<-e]at U ⊢;rw[P];rcases mC c with c|rfl
  ·obtain⟨i,u,Z⟩:=j.only z c U;exact⟨i,by omega,Z⟩
  ·exact⟨chs.length,by omega,rfl⟩
 ·rw[O,qZ (fun q=>Gm (by omega) q.symm)];exact j.x8
 ·rw[P]
 ·rw[QW,bB];show 4096*chs.length+12+(p.size+12)=4096*chs.length+(12+(p.size+12+0))
  omega
 ·show L.endp<=4096*chs.length+12+(jS p).size;omega
 ·rw[oP,rE,Nat.zero_add];rfl
 ·show 4096*chs.length+12+(jS p).size=_;rw[bB]
 ·omega
 ·show L.endp<=_;omega
 ·have H:gg chs p=false:=by unfold gg;exact qW (fun h=>J h.1 h.2)
  unfold plQ;rw[qZ (by simp[H])]
 ·have H:gg chs p=false:=by unfold gg;exact qW (fun h=>J h.1 h.2)
  unfold plC;rw[qZ (by simp[H])]
 ·have H:gg chs p=false:=by unfold gg;exact qW (fun h=>J h.1 h.2)
  rw[qZ (by simp[H])]
 ·intro k t;rw[O,qZ (fun e=>by rw[e,(lr (i:=chs.length) (by omega)).1]at t;cases t)];exact o.data k
 ·intro k t;rw[Q]at t;obtain⟨z,c,e⟩:=qN.1 t;rcases mC c with c|rfl
  ·refine qX ?_;rw[<-o.names];exact qN.2 ⟨z,c,e⟩
  ·exact qY ⟨chs.length,by omega,e.symm⟩
theorem qQC(g:kx D chs)(c:uN D L chs)(p:Tw)(f:p.size<=2000)(n:D.l.length<400)(k:chs.length<=199)(o:jA D.l+(p.size+24)+6000<=D.cap):∃q E M i,bu D L p=(q,0,E,M)/\rH D L chs p q E M i:=by
 by_cases b:0<chs.length/\12+kR (gu chs)+(p.size+12)<=4096
 ·obtain⟨a,x,rfl⟩:=Gp b.1;rw[mQ]at b;exact qQU g c p f b.2 (by omega)
 ·exact qQB g c p f (fun j m=>b ⟨j,m⟩) n k o
end
theorem JE: ∀(chs:List (List Tw)) (i:Nat) (x:Nat × Tw),x∈jO i chs->∃j b,chs[j]? = some b/\∃y∈yD 12 b,x.1=4096*(i+j)+y.1/\x.2=y.2
 | [],i,x,h=>by cases h
 | b::r,i,x,h=>by
   rcases qB.1 h with h|h
   ·refine⟨0,b,rfl, ?_⟩
    have:∀(l:List Tw) (k:Nat),x∈yD (4096*i+k) l->∃y∈yD k l,x.1=4096*(i+0)+y.1/\x.2=y.2:=by
     intro l
     induction l with
     | nil=>intro k a;cases a
     | cons p l o =>
       intro k a;rcases qL.1 a with rfl|a
       ·exact⟨(k,p),qD,rfl,rfl⟩
       ·obtain⟨y,c,e⟩:=o (k+(p.size+12)) (by rw[<-Nat.add_assoc];exact a);exact⟨y,qE _ c,e⟩
    exact this b 12 h
   ·obtain⟨j,q,n,y,c,f,m⟩:=JE r (i+1) x h;exact⟨j+1,q,n,y,c,by rw[f];omega,m⟩
section
variable {D:jK}{L:jN}{chs:List (List Tw)}
theorem JF(g:kx D chs){i:Nat}{a:List Tw}(hi:chs[i]? = some a):i<=199/\∃f,jW D.l (nmC i)=some f/\f.data=bF i a/\f.data.size=12+kR a/\12+kR a<=4096/\(∀p∈a,p.size<=2000):=by
 have m:=(qP.1 hi).1;have n:=g.many;obtain⟨f,c,b⟩:=g.files i a hi;obtain⟨j,k⟩:=g.small a (qM hi);exact⟨by omega,f,c,b,by rw[b,tf (by omega)],j,k⟩
def lX(l:List (Nat × Tw))(pos:Int)(D:jK):nf:=match l.find? (fun x=>decide (pos<=(x.1:Int))) with
 | none=>⟨ByteArray.empty,0,0,4,D⟩
 | some x=>⟨x.2,(x.1:Int),((x.1+(x.2.size+12):Nat):Int),0,D⟩
theorem Ga(n:Nat)(pos:Int):∀(a:List Tw) (k:Nat),((yD k a).map (fun x=>(x.1:Int))).find? (fun x=>decide (pos<=(n:Int)*4096+x))=((yD (4096*n+k) a).find? (fun x=>decide (pos<=(x.1:Int)))).map (fun x=>(x.1:Int)-4096*n)
 | [],k=>rfl
 | p::a,k=>by
   show((k:Int)::_).find? _=(((4096*n+k,p)::yD (4096*n+k+(p.size+12)) a).find? _).map _;rw[List.find?_cons,List.find?_cons];have e:(n:Int)*4096+(k:Int)=((4096*n+k:Nat):Int):=(by omega);by_cases h:pos<=((4096*n+k:Nat):Int)
   ·rw[qA (by rw[e];exact h),qA h];show some (k:Int)=some (((4096*n+k:Nat):Int)-4096*n);congr 1;omega
   ·rw[qW (by rw[e];exact h),qW h];have:=Ga n pos a (k+(p.size+12));rw[<-Nat.add_assoc (4096*n) k (p.size+12)]at this;exact this
theorem Ge(g:kx D chs)(pos:Int):∀(k n c:Nat),n+k=chs.length->∃b,b<=c+k/\gL k n { D with count:=c } pos=lX (jO n (chs.drop n)) pos { D with count:=b }
 | 0,n,c,h=>⟨c,qK _,by
   rw[List.drop_eq_nil_of_le (by omega)];rfl⟩
 | k+1,n,c,h=>by
   have r:n<chs.length:=(by omega);have N:=qC r;obtain⟨s,f,C,l,V,W,m⟩:=JF g N;have t:=Y7 (D:={ D with count:=c }) (n:=nmC n) (f:=f) g.up C;obtain⟨i,S,T⟩:=Ua s chs[n] m;rw[<-l]at i S T;have I:chs.drop n=chs[n]::chs.drop (n+1):=List.drop_eq_getElem_cons r;have p:=Ga n pos chs[n] 12;have o:jO n (chs.drop n)=yD (4096*n+12) chs[n]++jO (n+1) (chs.drop (n+1)):=(by rw[I];rfl);have J:=mN s;cases a:(yD (4096*n+12) chs[n]).find? (fun x=>decide (pos<=(x.1:Int))) with
   | none =>
     obtain⟨b,X,e⟩:=Ge g pos k (n+1) (c+1) (by omega);refine⟨b,by omega, ?_⟩;rw[gL,t,qZ (by simp)];dsimp only;rw[i,p,a];dsimp only[Option.map];rw[e];unfold lX;rw[o,List.find?_append,a];rfl
   | some x =>
     refine⟨c+1,by omega, ?_⟩;rw[gL,t,qZ (by simp)];dsimp only;rw[i,p,a];dsimp only[Option.map];have P:=List.mem_of_find?_eq_some a;have O:x∈jO n [chs[n]]:=(by rw[rE];exact P);obtain⟨j,R,q,y,Q,U,A⟩:=JE _ _ _ O;have M:j=0:=(by have:=(qP.1 q).1;simpa using this);subst M;obtain rfl:chs[n]=R:=(by simpa using q);obtain⟨Y,u,z,Z,r5,r6,r7⟩:=Zt chs[n] (hdS (n:Nat)) m y (by rw[J];exact Q);have H:vj (hdS (n:Nat)) chs[n]=f.data:=l.symm;rw[H]at u z;have B:(x.1:Int)-4096*n=(y.1:Nat):=(by omega);rw[B,u,z];unfold lX;rw[o,List.find?_append,a];show(⟨y.2,_,_,0,_⟩:nf)=⟨x.2,_,_,0,_⟩
     rw[A];congr 1
     ·omega
     ·omega
theorem qQD(g:kx D chs)(x:Nat × Tw)(n:Nat)(h:x∈jO 0 (chs.take n)):x.1<4096*n:=by
 obtain⟨j,a,b,y,m,p,q⟩:=JE _ _ _ h
 have l:j<n/\chs[j]? = some a:=by
  have k:=(qP.1 b).1;rw[qS]at k;rw[List.getElem?_take,qV (by omega)]at b;exact⟨by omega,b⟩
 obtain⟨c,f,r,s,t,u,i⟩:=JF g l.2;obtain⟨z,A,B,C,o,H,I⟩:=Zt a (hdS (j:Nat)) i y (by rw[mN c];exact m);rw[show vj (hdS (j:Nat)) a=bF j a from rfl,tf c]at o;omega
theorem qQE(g:kx D chs)(a:uN D L chs)(pos:Nat):∃c,c<=D.count+200/\tY D L (pos:Nat)=lX (jO 0 chs) (pos:Nat) { D with count:=c }:=by
 have p:=g.many;unfold tY;rw[qZ (by simp[QG g a]),a.xC];have j:(max (pos:Int) 0/4096).toNat=pos/4096:=by omega
 rw[j];have f:jO 0 chs=jO 0 (chs.take (pos/4096))++jO (0+(chs.take (pos/4096)).length) (chs.drop (pos/4096)):=by rw[<-oP,ql]
 have b:(jO 0 (chs.take (pos/4096))).find? (fun x=>decide ((pos:Int)<=(x.1:Int)))=none:=by
  rw[List.find?_eq_none];intro x n;have:=qQD g x _ n;simp;omega
 rcases Nat.lt_or_ge (pos/4096) chs.length with m|l
 ·obtain⟨c,o,e⟩:=Ge g (pos:Nat) (chs.length-pos/4096) (pos/4096) D.count (by omega);refine⟨c,by omega, ?_⟩;have k:({ D with count:=D.count }:jK)=D:=rfl;rw[k]at e;rw[e];unfold lX;rw[f,List.find?_append,b,qS,Nat.min_eq_left (Nat.le_of_lt m),Nat.zero_add];rfl
 ·refine⟨D.count,by omega, ?_⟩;have i:chs.length-pos/4096=0:=by omega
  rw[i];unfold lX;rw[f,List.find?_append,b,List.drop_eq_nil_of_le l];rfl
end
theorem Gi: ∀(a b:List Tw),a.Pairwise (fun x y=>vC x y=true)->b.Pairwise (fun x y=>vC x y=true)->(∀x,x∈a↔x∈b)->a=b
 | [],[],_,_,_=>rfl
 | [],y::b,_,_,h=>by have:=(h y).2 qD;cases this
 | x::a,[],_,_,h=>by have:=(h x).1 qD;cases this
 | x::a,y::b,ha,hb,h=>by
   obtain⟨i,k⟩:=List.pairwise_cons.1 ha;obtain⟨j,l⟩:=List.pairwise_cons.1 hb
   have e:x=y:=by
    rcases qL.1 ((h x).1 qD) with e|m
    ·exact e
    ·rcases qL.1 ((h y).2 qD) with e|n
     ·exact e.symm
     ·exact absurd (JW (i y n) (j x m)) (rB x)
   subst e;congr 1;refine Gi a b k l (fun z=>⟨fun c=>?_,fun c=>?_⟩)
   ·rcases qL.1 ((h z).1 (qE _ c)) with rfl|f
    ·exact absurd (i z c) (rB z)
    ·exact f
   ·rcases qL.1 ((h z).2 (qE _ c)) with rfl|f
    ·exact absurd (j z c) (rB z)
    ·exact f
theorem JH: ∀(l:List Tw) (c:Nat),yP l c=yP (l.filter isC) c
 | [],c=>rfl
 | s::r,c=>by
   cases h:isC s
   ·rw[List.filter_cons_of_neg (by simp[h]),<-JH r c];rw[yP,qZ (by simp[h])]
   ·rw[List.filter_cons_of_pos h,yP,yP,qV h,qV h,JH r (c+1)]
theorem Gw: ∀(m c:Nat),c+m<=200->yP ((List.range' c m).map nmC) c=(0,c+m)
 | 0,c,_=>rfl
 | m+1,c,h=>by
   rw[List.range'_succ,List.map_cons];obtain⟨a,b⟩:=lr (i:=c) (by omega);rw[yP,qV a,b,qZ (by omega),Gw m (c+1) (by omega)];congr 1;omega
theorem qQF{D:jK}{chs:List (List Tw)}(g:kx D chs)(t:D.l.Pairwise (fun f g=>vC f.name g.name=true)):yP (D.l.map jU.name) 0=(0,chs.length):=by
 have y:=g.many
 have e:(D.l.map jU.name).filter isC=(List.range' 0 chs.length).map nmC:=by
  refine Gi _ _ (List.Pairwise.filter _ (List.pairwise_map.2 t)) ?_ (fun x=>⟨fun j=>?_,fun j=>?_⟩)
  ·refine List.pairwise_map.2 ?_;refine List.Pairwise.imp_of_mem ?_ (List.pairwise_lt_range' (s:=0) (n:=chs.length) (step:=1) (by omega));intro a b p q u;rw[List.mem_range'_1]at p q;have:=Me 99 (m:=a) (n:=b) (by omega) (by omega);unfold vC;rw[show(nmC a).toList=(nmS 99 (a:Nat)).toList from rfl,show(nmC b).toList=(nmS 99 (b:Nat)).toList from rfl,this];exact qA (by omega)
  ·obtain⟨c,o⟩:=List.mem_filter.1 j;obtain⟨f,r,rfl⟩:=qN.1 c;obtain⟨i,k,e⟩:=g.only f r o;exact qN.2 ⟨i,by rw[List.mem_range'_1];omega,e.symm⟩
  ·obtain⟨i,k,rfl⟩:=qN.1 j;rw[List.mem_range'_1]at k;obtain⟨f,c,_⟩:=g.files i chs[i] (qC (by omega));refine List.mem_filter.2 ⟨?_,(lr (by omega)).1⟩;have:=QU (VY c);rw[L3 c]at this;exact this
 rw[JH,e,Gw _ _ (by omega),Nat.zero_add]
theorem BQ{D:jK}{chs:List (List Tw)}(g:kx D chs):∀(k n c:Nat) (L:jN),n+k=chs.length->(k=0->L.endp=kC chs)->∃E a,uK k n { D with count:=c } L=(0,E, { L with endp:=kC chs })/\ks D E/\E.count=a/\a<=c+k
 | 0,n,c,L,h,hL=>⟨_,c,by rw[<-hL rfl];rfl,ks.count D c,rfl,qK _⟩
 | k+1,n,c,L,h,hL=>by
   have t:n<chs.length:=(by omega);have l:=qC t;obtain⟨u,f,j,p,q,H,r⟩:=JF g l;have y:=Y7 (D:={ D with count:=c }) (n:=nmC n) (f:=f) g.up j;obtain⟨C,i,m⟩:=Ua u chs[n] r;rw[<-p]at C i m;rw[uK,y,qZ (by simp)];dsimp only;rw[m,qZ (by simp)];by_cases b:k=0
   ·rw[qV b,i];unfold fk;rw[qZ (by omega),qZ (by omega)];have z:=XM (D:={ D with count:=c+1 }) (n:=nmC n) (f:=f) g.up g.fails j;refine⟨_,c+1, ?_,(ks.count D (c+1)).trans (ks.synced _ (nmC n)),rfl,by omega⟩;show((jc { D with count:=c+1 } (nmC n)).1,(jc { D with count:=c+1 } (nmC n)).2,_)=_;rw[z]
    have e:kC chs=4096*n+f.data.size:=by
     have s:gu chs=chs[n]:=by
      unfold gu;rw[List.getLast?_eq_getElem?,show chs.length-1=n by omega,l];rfl
     unfold kC;rw[qZ (by omega),s,q,show chs.length-1=n by omega]
    rw[e]
   ·rw[qZ b,i,qZ (by omega)];obtain⟨E,a,e,A,B,I⟩:=BQ g k (n+1) (c+1) { L with endp:=4096*n+f.data.size } (by omega) (fun o=>absurd o b);exact⟨E,a,e,A,B,by omega⟩
theorem qQH{D:jK}{chs:List (List Tw)}(g:kx D chs)(c:D.l.Pairwise (fun f g=>vC f.name g.name=true)):∃E,uo D=(0,E,⟨D.qp,chs.length,kC chs,0⟩)/\ks D E/\E.count<=D.count+200:=by
 have m:=g.many
 have i:ve D=(0,D):=by
  unfold ve;rw[sj g.up g.x8,qV rfl]
 have b:uH D ⟨D.qp,0,0,0⟩=(0,D,⟨D.qp,chs.length,0,0⟩):=by
  unfold uH;rw[qQF g c]
 obtain⟨E,k,e,j,n,o⟩:=BQ g chs.length 0 D.count ⟨D.qp,chs.length,0,0⟩ (by omega) (fun a=>by unfold kC;rw[qV a]);refine⟨E, ?_,j,by omega⟩;unfold uo;rw[Gt i,b,Gs];exact e
theorem qQI(c:Nat)(b:c<=1048576):kx (y9 c) []:=⟨rfl,rfl,qF _,fun i a h=>(by simp at h),fun a h=>(by cases h),fun f h=>(by cases h),rfl⟩
end
section
open Go.RowKit
abbrev Rec:= Nat × Tw
def vy(x:Rec):Nat:=x.1+(x.2.size+12)
def mr(l:List Rec):Prop:=l.Pairwise (fun x y=>vy x<=y.1)
def lZ(l:List Rec)(k:Nat):Nat:=if k=0 then 0 else(l[k-1]?.map vy).getD 0
theorem qQL{l:List Rec}{k:Nat}{x:Rec}(h:l[k]? = some x):lZ l (k+1)=vy x:=by unfold lZ;rw[qZ (by omega),Nat.add_sub_cancel,h];rfl
theorem BZ: ∀(l:List Tw) (k:Nat),mr (yD k l)/\∀x∈yD k l,k<=x.1/\vy x<=k+kR l
 | [],k=>⟨List.Pairwise.nil,fun x h=>by cases h⟩
 | p::l,k=>by
   obtain⟨c,b⟩:=BZ l (k+(p.size+12));refine⟨List.pairwise_cons.2 ⟨fun y f=>(b y f).1,c⟩,fun x a=>?_⟩;show _/\_<=k+(p.size+12+kR l)
   rcases qL.1 a with rfl|a
   ·refine⟨qK _, ?_⟩;show k+(p.size+12)<=_;omega
   ·have:=b x a;omega
theorem oR: ∀(chs:List (List Tw)) (i:Nat),(∀b∈chs,12+kR b<=4096)->mr (jO i chs)/\∀x∈jO i chs,4096*i+12<=x.1/\vy x<=4096*(i+chs.length)
 | [],i,_=>⟨List.Pairwise.nil,fun x h=>by cases h⟩
 | b::r,i,h=>by
   obtain⟨j,c⟩:=oR r (i+1) (fun q l=>h q (qE _ l));obtain⟨k,f⟩:=BZ b (4096*i+12);have n:=h b qD;refine⟨List.pairwise_append.2 ⟨k,j,fun x a y m=>?_⟩,fun x a=>?_⟩
   ·have:=(f x a).2;have:=(c y m).1;omega
   ·rw[qk];rcases qB.1 a with a|a
    ·have:=f x a;omega
    ·have:=c x a;omega
theorem BJ(chs:List (List Tw))(h:∀b∈chs,12+kR b<=4096):lZ (jO 0 chs) (jO 0 chs).length=kC chs∨(kC chs%4096=12/\lZ (jO 0 chs) (jO 0 chs).length+12<=kC chs):=by
 by_cases i:0<chs.length
 ·obtain⟨a,x,rfl⟩:=Gp i;rw[QW,oP,rE,Nat.zero_add];by_cases f:0<x.length
  ·left;have c:x≠[]:=(by intro e;rw[e]at f;simp at f);obtain⟨y,p,rfl⟩:∃y p,x=y++[p]:=⟨x.dropLast,x.getLast c,(List.dropLast_concat_getLast c).symm⟩
   rw[Zs,<-qb,qI,List.length_singleton,td];rw[qQL (x:=(4096*a.length+12+kR y,p)) (by rw[List.getElem?_append_right (qK _),Nat.sub_self];rfl)];show 4096*a.length+12+kR y+(p.size+12)=_;omega
  ·have e:x=[]:=List.eq_nil_of_length_eq_zero (by omega);subst e;right;show(4096*a.length+(12+0))%4096=12/\lZ (jO 0 a++[]) (jO 0 a++[]).length+12<=4096*a.length+(12+0)
   rw[List.append_nil];refine⟨by omega, ?_⟩;obtain⟨_,j⟩:=oR a 0 (fun b k=>h b (qG _ k))
   have:lZ (jO 0 a) (jO 0 a).length<=4096*a.length:=by
    unfold lZ;split
    ·exact qF _
    ·rw[qC (by omega)];have:=(j _ (List.getElem_mem (show(jO 0 a).length-1<(jO 0 a).length by omega))).2;rw[Nat.zero_add]at this;exact this
   omega
 ·have e:chs=[]:=List.eq_nil_of_length_eq_zero (by omega);subst e;exact qX rfl
end
end Go.Proofs.YtokbfellcadkpaaGreat

import Derived.Deep.Fields
import Derived.ProofKit
import Derived.Test.YthejglbnkmimjaaGreatPp03
import Derived.Deep.RegionLaw
set_option linter.unusedVariables false
set_option maxRecDepth 100000
set_option maxHeartbeats 9000000
namespace Go.Proofs.YthejglbnkmimjaaGreat
open Tryz
section
open Go.ChangeShapes Go.WideShapes Go.ChangeAt Go.RowKit Go.Deep
structure zn where
 h:Nat
 v:Int
 p:Int
def bR(x:zn):List Value:=[.int .u64 (x.h:Nat),.int .i64 x.v,.int .i64 x.p]
abbrev ji(x:zn):Value:=.agg #[.int .u64 (x.h:Nat),.int .i64 x.v,.int .i64 x.p]
structure vP(x:zn):Prop where
 h:x.h<18446744073709551616
 v0:-9223372036854775808<=x.v
 v1:x.v<=9223372036854775807
 p0:-9223372036854775808<=x.p
 p1:x.p<=9223372036854775807
def jb(w:World)(v:Value)(l:List zn):Prop :=
 (l=[]/\∃a c,v = .slice a 0 c)∨∃b off d,v = .slice (some ⟨b,off,none⟩) l.length d/\l.length<=d/\d<=maxLen/\b<w.heap.size /\
  ∀i x,l[i]? = some x->∀j u,(bR x)[j]? = some u->w.cell? ⟨b,off+(i*3+j),none⟩=some u
theorem jb.below{w w':World}{v:Value}{l:List zn}{B:Nat}(h:jb w v l)(a:Below B w w')(f:w.heap.size<=B):jb w' v l:=by
 rcases h with h|⟨b,off,d,r,n,o,c,g⟩
 ·exact qX h
 ·exact qY ⟨b,off,d,r,n,o,qP c a.size,fun i x s j u q=>(a.cell (p:=⟨b,off+(i*3+j),none⟩) (qP c f)).trans (g i x s j u q)⟩
theorem Xy: laidOutB prog=true:=by kernel_rfl
end
section
open Go.RowKit
def jE(x y:zn):Bool:=decide (x.h<y.h∨(x.h=y.h/\(x.v<y.v∨(x.v=y.v/\x.p<y.p))))
theorem dY{x y:zn}:jE x y=true↔(x.h<y.h∨(x.h=y.h/\(x.v<y.v∨(x.v=y.v/\x.p<y.p)))):=by unfold jE;exact decide_eq_true_iff
theorem mO{x y:zn}(a:x.h=y.h)(b:x.v=y.v)(c:x.p=y.p):x=y:=by cases x;cases y;simp_all
instance T3 : DecidableEq zn := fun x y => decidable_of_iff (x.h = y.h /\ x.v = y.v /\ x.p = y.p) ⟨fun h => mO h.1 h.2.1 h.2.2, fun h => by subst h; exact ⟨rfl, rfl, rfl⟩⟩
theorem mP(x:zn):jE x x=false:=by unfold jE;exact qG (by omega)
theorem dU{x y z:zn}(h:jE x y=true)(k:jE y z=true):jE x z=true:=by rw[dY]at*;omega
theorem rp{x y:zn}(h:jE x y=false)(b:x≠y):jE y x=true:=by
 rcases Decidable.em (jE y x=true) with c|c
 ·exact c
 ·exfalso;apply b;have a:¬jE x y=true:=by rw[h];decide
  rw[dY]at a c;exact mO (by omega) (by omega) (by omega)
def mayE(x:zn):Bool:=decide (0<=x.v/\0<=x.p)
def fp(x:zn):List UInt8:=be 8 x.h++(be 8 x.v.toNat++be 8 x.p.toNat)
def ym(x:zn):Tw:=if mayE x=true then bs (fp x) else ByteArray.empty
def enV(s:Tw):Nat:=jJ (s.extract 8 16)
def enP(s:Tw):Nat:=jJ (s.extract 16 24)
def vc(s:Tw):Bool:=decide (s.size=24/\enV s<9223372036854775808/\enP s<9223372036854775808)
def enG(s:Tw):zn:=if vc s=true then⟨jJ (s.extract 0 8),(enV s:Nat),(enP s:Nat)⟩ else⟨0,0,0⟩
theorem Gf(x:zn):(fp x).length=24:=by unfold fp;rw[qI,qI,jO,jO,jO]
theorem Gh{x:zn}(h:mayE x=true):(ym x).size=24:=by unfold ym;rw[qK h,jh,Gf]
theorem rr(s:Tw)(i j:Nat):(s.extract i j).data.toList=(s.data.toList.drop i).take (j-i):=by
 rw[ByteArray.data_extract,Array.toList_extract,List.extract_eq_take_drop]
theorem re{s:Tw}{l:List UInt8}(h:s.data.toList=l)(a:l.length=8):jJ s=un l:=by unfold jJ;rw[h,qg (by omega)]
theorem Xu{x:zn}(h:mayE x=false):ym x=ByteArray.empty:=by unfold ym;rw[h];rfl
theorem Gl{s:Tw}(h:vc s=true):mayE (enG s)=true/\ym (enG s)=s:=by
 have p:=of_decide_eq_true h;obtain⟨r,y,u⟩:=p
 have i:mayE (enG s)=true:=by
  unfold enG mayE;rw[qK h];exact qW ⟨by show(0:Int)<=((enV s:Nat):Int);omega,by show(0:Int)<=((enP s:Nat):Int);omega⟩
 refine⟨i, ?_⟩;have t:s.data.toList.length=24:=by rw[Array.length_toList];exact r
 have a:((s.data.toList.drop 0).take 8).length=8:=by rw[qq,List.length_drop];omega
 have b:((s.data.toList.drop 8).take 8).length=8:=by rw[qq,List.length_drop];omega
 have c:((s.data.toList.drop 16).take 8).length=8:=by rw[qq,List.length_drop];omega
 have d:=dd ((s.data.toList.drop 0).take 8);have f:=dd ((s.data.toList.drop 8).take 8);have g:=dd ((s.data.toList.drop 16).take 8);rw[a]at d;rw[b]at f;rw[c]at g;have j:jJ (s.extract 0 8)=un ((s.data.toList.drop 0).take 8):=re (rr s 0 8) a;have n:enV s=un ((s.data.toList.drop 8).take 8):=re (rr s 8 16) b;have o:enP s=un ((s.data.toList.drop 16).take 8):=re (rr s 16 24) c
 have e:fp (enG s)=s.data.toList:=by
  unfold enG fp;rw[qK h];show be 8 (jJ (s.extract 0 8))++(be 8 ((enV s:Nat):Int).toNat++be 8 ((enP s:Nat):Int).toNat)=_;rw[qh,qh,j,n,o,d,f,g,List.drop_zero];rw[show(16:Nat)=8+8 from rfl,<-List.drop_drop];have q:(((s.data.toList.drop 8).drop 8).take 8)=(s.data.toList.drop 8).drop 8:=qg (by rw[List.length_drop,List.length_drop];omega);rw[q,ql,ql]
 unfold ym;rw[qK i,e,dQ]
theorem Xg{s:Tw}(h:vc s=false):enG s=⟨0,0,0⟩:=by unfold enG;rw[h];rfl
theorem Gm{s:Tw}(h:s.size≠24):vc s=false:=by unfold vc;exact qG (fun x=>h x.1)
def uU: List zn->Bool
 | []=>true
 | [_]=>true
 | x::y::l=>jE x y&&uU (y::l)
theorem Xb: ∀ {l:List zn},(∀(i:Nat) (x y:zn),l[i]? = some x->l[i+1]? = some y->jE x y=true)->uU l=true
 | [],_=>rfl
 | [_],_=>rfl
 | x::y::l,h=>by
   unfold uU;rw[h 0 x y rfl rfl,Bool.true_and];exact Xb fun i a b ha hb=>h (i+1) a b (by simpa using ha) (by simpa using hb)
theorem Xc: ∀ {l:List zn},uU l=true->∀(i:Nat) (x y:zn),l[i]? = some x->l[i+1]? = some y->jE x y=true
 | [],_=>fun i x y c _=>by simp at c
 | [_],_=>fun i x y _ d=>by simp at d
 | a::b::l,h=>by
   unfold uU at h;rw[Bool.and_eq_true]at h;intro i x y c d;cases i with
   | zero =>
     obtain rfl:a=x:=(by simpa using c);obtain rfl:b=y:=(by simpa using d);exact h.1
   | succ i=>exact Xc h.2 i x y (by simpa using c) (by simpa using d)
theorem Gn{l:List zn}{i:Nat}{x y:zn}(b:l[i]? = some x)(c:l[i+1]? = some y)(h:jE x y=false):uU l=false:=by
 cases a:uU l with
 | false=>rfl
 | true=>rw[Xc a i x y b c]at h;cases h
def jj(l:List zn):Prop:=l.Pairwise (fun x y=>jE x y=true)
theorem Xd: ∀ {l:List zn},uU l=true->jj l
 | [],_=>List.Pairwise.nil
 | [x],_=>List.pairwise_singleton _ _
 | x::y::l,h=>by
   unfold uU at h;rw[Bool.and_eq_true]at h;have hr:=Xd h.2;refine List.Pairwise.cons (fun z a=>?_) hr;rcases qL.1 a with rfl|a
   ·exact h.1
   ·exact dU h.1 ((List.pairwise_cons.1 hr).1 z a)
def kV(l:List zn)(x:zn):Nat:=l.findIdx (fun y=>!jE y x)
def kS(l:List zn)(x:zn):List zn:=if l[kV l x]? = some x then l else l.take (kV l x)++[x]++l.drop (kV l x)
theorem ri(l:List zn)(x:zn):kV l x<=l.length:=List.findIdx_le_length
theorem sQ(l:List zn)(x:zn):∀y∈l.take (kV l x),jE y x=true:=by
 intro y c;obtain⟨j,a⟩:=List.getElem?_of_mem c;have b:=(qM.1 a).1;rw[qq]at b;rw[List.getElem?_take,qK (by omega),qD (by omega)]at a;have e:=qv a;have:=List.not_of_lt_findIdx (p:=fun y=>!jE y x) (xs:=l) (i:=j) (by unfold kV at b;omega);rw[e]at this;simpa using this
theorem Xf{l:List zn}{x:zn}(j:jj l)(i:l[kV l x]?≠some x):∀y∈l.drop (kV l x),jE x y=true:=by
 rcases Nat.lt_or_ge (kV l x) l.length with c|c
 ·have e:l.drop (kV l x)=l[kV l x]::l.drop (kV l x+1):=List.drop_eq_getElem_cons c
  have f:jE l[kV l x] x=false:=by
   have h:(!jE l[kV l x] x)=true:=List.findIdx_getElem (p:=fun y=>!jE y x) (xs:=l) (w:=c);rw[Bool.not_eq_true']at h;exact h
  have g:l[kV l x]≠x:=fun h=>i (by rw[qD c,h])
  have b:=rp f g;have d:jj (l.drop (kV l x)):=List.Pairwise.drop j;rw[e]at d ⊢;intro y a;rcases qL.1 a with rfl|a
  ·exact b
  ·exact dU b ((List.pairwise_cons.1 d).1 y a)
 ·rw[List.drop_eq_nil_of_le c];intro y a;cases a
theorem Xh{l:List zn}(f:jj l)(x:zn):jj (kS l x):=by
 unfold kS;split
 ·exact f
 ·rename_i j;have g:=sQ l x;have i:=Xf f j;refine List.pairwise_append.2 ⟨List.pairwise_append.2 ⟨List.Pairwise.take f,List.pairwise_singleton _ _,fun a c b d=>?_⟩,List.Pairwise.drop f,fun a c b d=>?_⟩
  ·rw[qE.1 d];exact g a c
  ·rcases qC.1 c with c|c
   ·exact dU (g a c) (i b d)
   ·rw[qE.1 c];exact i b d
theorem oY{l:List zn}{x y:zn}(h:y∈kS l x):y∈l∨y=x:=by
 unfold kS at h;split at h
 ·exact qX h
 ·rcases qC.1 h with h|h
  ·rcases qC.1 h with h|h
   ·exact qX (List.mem_of_mem_take h)
   ·exact qY (qE.1 h)
  ·exact qX (List.mem_of_mem_drop h)
theorem Gp(l:List zn)(x:zn):(kS l x).length<=l.length+1:=by
 unfold kS;split
 ·omega
 ·rw[qI,qI,qq,List.length_drop,List.length_singleton];have:=ri l x;omega
def yn(h:Nat)(v:Int)(x:zn):Bool:=decide (x.h<h∨(x.h=h/\x.v<v))
def va(h:Nat)(v:Int)(x:zn):Bool:=decide (x.h<h∨(x.h=h/\x.v<=v))
def inQ(h:Nat)(a b:Int)(x:zn):Bool:=decide (x.h=h/\a<=x.v/\x.v<=b)
def upQ(h:Nat)(b:Int)(x:zn):Bool:=decide (x.h=h/\x.v<=b)
def dt(l:List zn)(h:Nat)(v:Int):Nat:=l.countP (yn h v)
def kZ(l:List zn)(h:Nat)(a b:Int):List zn:=l.filter (inQ h a b)
def bS(l:List zn)(h:Nat)(b:Int):Option zn:=(l.filter (upQ h b)).getLast?
def kt(l:List zn)(h:Nat)(b:Int):zn:=(bS l h b).getD ⟨0,0,0⟩
def vZ(l:List zn)(h:Nat)(b:Int):Bool:=(bS l h b).isSome
def vm(q:zn->Bool)(l:List zn)(k:Nat):Prop:=∀(i:Nat) (x:zn),l[i]? = some x->q x=decide (i<k)
theorem di{q:zn->Bool}(g:∀x y,jE x y=true->q y=true->q x=true):∀ {l:List zn},jj l->vm q l (l.countP q)
 | [],_=>fun i x h=>by simp at h
 | a::l,hr=>by
   obtain⟨n,o⟩:=List.pairwise_cons.1 hr;have p:=di g o;intro i x c;cases b:q a with
   | true =>
     rw[List.countP_cons_of_pos b];cases i with
     | zero =>
       obtain rfl:a=x:=(by simpa using c);rw[b,qW (Nat.succ_pos _)]
     | succ i =>
       rw[p i x (by simpa using c),decide_eq_decide];omega
   | false =>
     have f:∀y∈l,q y=false:=fun y d=>by
      cases h:q y with
      | false=>rfl
      | true=>rw[g a y (n y d) h]at b;cases b
     have j:l.countP q=0:=List.countP_eq_zero.2 fun y d=>by rw[f y d];decide
     rw[List.countP_cons_of_neg (by rw[b];decide),j,qG (Nat.not_lt_zero _)];cases i with
     | zero =>
       obtain rfl:a=x:=(by simpa using c);exact b
     | succ i=>exact f x (qO (by simpa using c))
theorem Xl(h:Nat)(v:Int):∀x y,jE x y=true->yn h v y=true->yn h v x=true:=by
 intro x y a b;rw[dY]at a;have:=of_decide_eq_true b;exact qW (by omega)
theorem sX(h:Nat)(v:Int):∀x y,jE x y=true->va h v y=true->va h v x=true:=by
 intro x y a b;rw[dY]at a;have:=of_decide_eq_true b;exact qW (by omega)
theorem vm.tail{q:zn->Bool}{x:zn}{l:List zn}{k:Nat}(h:vm q (x::l) k):q x=decide (0<k)/\vm q l (k-1) :=
 ⟨h 0 x rfl,fun i y a=>by rw[h (i+1) y (by simpa using a),decide_eq_decide];omega⟩
theorem Xm{q r:zn->Bool}:∀ {l:List zn} {a b:Nat},vm q l a->vm r l b->l.filter (fun x=>!q x&&r x)=(l.drop a).take (b-a)
 | [],a,b,_,_=>by simp
 | x::l,a,b,hq,hr=>by
   obtain⟨d,f⟩:=hq.tail;obtain⟨g,i⟩:=hr.tail;have c:=Xm f i;rw[List.filter_cons,d,g,c];cases a with
   | zero =>
     cases b with
     | zero=>simp
     | succ b=>simp
   | succ a =>
     have e:decide (0<a+1)=true:=qW (Nat.succ_pos _);rw[e];simp only[Bool.not_true,Bool.false_and,Bool.false_eq_true,if_false,Nat.add_sub_cancel,List.drop_succ_cons];congr 1;omega
theorem Gs{l:List zn}{h:Nat}{a b:Int}{i j:Nat}(c:vm (yn h a) l i)(d:vm (va h b) l j):kZ l h a b=(l.drop i).take (j-i):=by
 rw[<-Xm c d];unfold kZ;congr 1;funext x;unfold inQ yn va;rw[<-decide_not,<-Bool.decide_and,decide_eq_decide];omega
theorem Gt{p:zn->Bool}{l:List zn}{i:Nat}{x:zn}(n:l[i]? = some x)(g:p x=true)(f:∀j y,i<j->l[j]? = some y->p y=false):(l.filter p).getLast? = some x:=by
 obtain⟨d,e⟩:=qM.1 n
 have b:l=l.take i++(x::l.drop (i+1)):=by
  rw[<-e,<-List.drop_eq_getElem_cons d,ql]
 have c:(l.drop (i+1)).filter p=[]:=by
  rw[List.filter_eq_nil_iff];intro y o;obtain⟨j,a⟩:=List.getElem?_of_mem o;rw[List.getElem?_drop]at a;rw[f _ y (by omega) a];decide
 rw[b,List.filter_append,List.filter_cons,qK g,c];simp
theorem sZ{p:zn->Bool}{l:List zn}(a:∀y∈l,p y=false):(l.filter p).getLast? = none:=by
 have:l.filter p=[]:=List.filter_eq_nil_iff.2 fun y b=>by rw[a y b];decide
 rw[this];rfl
theorem sJ{l:List zn}{h:Nat}{b:Int}{k:Nat}{x:zn}(a:vm (va h b) l (k+1))(c:l[k]? = some x)(d:x.h=h):bS l h b=some x:=by
 have g:=of_decide_eq_true ((a k x c).trans (qW (Nat.lt_succ_self k)));refine Gt c (qW ⟨d,by omega⟩) fun j y n f=>?_
 have i:=of_decide_eq_false ((a j y f).trans (qG (by omega)));exact qG (by omega)
theorem sK{l:List zn}{h:Nat}{b:Int}{k:Nat}{x:zn}(n:jj l)(f:vm (va h b) l (k+1))(a:l[k]? = some x)(q:x.h≠h):bS l h b=none:=by
 refine sZ fun y o=>?_
 obtain⟨j,d⟩:=List.getElem?_of_mem o;have p:=of_decide_eq_true ((f k x a).trans (qW (Nat.lt_succ_self k)));have g:=f j y d;unfold upQ;rcases Nat.lt_trichotomy j k with c|c|c
 ·have i:=(qM.1 a).1;have:=List.pairwise_iff_getElem.1 n j k (by omega) i c;rw[qD (by omega)]at d;rw[qD i]at a;rw[qv d,qv a,dY]at this;exact qG (by omega)
 ·subst c;rw[d]at a;obtain rfl:=qv a;exact qG (by omega)
 ·rw[qG (by omega)]at g;have:=of_decide_eq_false g;exact qG (by omega)
theorem sV{l:List zn}{h:Nat}{b:Int}(a:vm (va h b) l 0):bS l h b=none:=by
 refine sZ fun y d=>?_
 obtain⟨j,c⟩:=List.getElem?_of_mem d;have:=of_decide_eq_false ((a j y c).trans (qG (Nat.not_lt_zero _)));exact qG (by omega)
def mR: List UInt8:=[112,116,97,98]
def yX(s:Tw)(i:Nat):Tw:=s.extract (8+24*i) (32+24*i)
def yD(s:Tw)(n:Nat):List zn:=(List.range n).map fun i=>enG (yX s i)
def tbN(s:Tw):Nat:=jJ (s.extract 4 8)
def ve(s:Tw):Bool:=decide (8<=s.size/\s.extract 0 4=bs mR/\tbN s<=89478484/\s.size=12+24*tbN s/\vt s=true/\(∀i,i<tbN s->vc (yX s i)=true)/\uU (yD s (tbN s))=true)
def tgL(s:Tw):List zn:=if ve s=true then yD s (tbN s) else []
def tgE(s:Tw):Int:=if ve s=true then 0 else 90
theorem dw{s:Tw}:ve s=true↔(8<=s.size/\s.extract 0 4=bs mR/\tbN s<=89478484/\s.size=12+24*tbN s/\vt s=true/\(∀i,i<tbN s->vc (yX s i)=true)/\uU (yD s (tbN s))=true):=by unfold ve;exact decide_eq_true_iff
theorem sY{s:Tw}(h:ve s=false):tgL s=[]/\tgE s=90:=by unfold tgL tgE;rw[h];exact⟨rfl,rfl⟩
theorem oU{s:Tw}(h:ve s=true):tgL s=yD s (tbN s)/\tgE s=0:=by unfold tgL tgE;rw[h];exact⟨rfl,rfl⟩
theorem oG(s:Tw)(n:Nat):(yD s n).length=n:=by unfold yD;rw[qj,List.length_range]
theorem Ga(s:Tw){n i:Nat}(h:i<n):(yD s n)[i]? = some (enG (yX s i)):=by unfold yD;rw[qz,List.getElem?_range h];rfl
theorem Ge(s:Tw){n:Nat}(h:∀i,i<n->vc (yX s i)=true):∀x∈yD s n,mayE x=true:=by
 intro x a;unfold yD at a;obtain⟨i,b,rfl⟩:=qN.1 a;exact(Gl (h i (List.mem_range.1 b))).1
def bT(n:Int):Int:=if n<0∨89478484<n then 0 else 12+24*n
def fe(n:Int):Int:=if n<0∨89478484<n then 0 else 8+24*n
theorem oW{n:Int}(h:n<0∨89478484<n):bT n=0/\fe n=0:=by unfold bT fe;rw[qK h,qK h];exact⟨rfl,rfl⟩
theorem sU{n:Int}(h:¬(n<0∨89478484<n)):bT n=12+24*n/\fe n=8+24*n:=by unfold bT fe;rw[qJ h,qJ h];exact⟨rfl,rfl⟩
theorem fi{n:Nat}(h:n<=89478484):bT (n:Nat)=((12+24*n:Nat):Int)/\fe (n:Nat)=((8+24*n:Nat):Int):=by
 obtain⟨a,b⟩:=sU (n:=(n:Nat)) (by omega);rw[a,b];exact⟨by omega,by omega⟩
theorem Xn(n:Int)(w:World):
  Calls prog 261 #[.int .i64 n] w fun e w'=>e = .returned (.int .i64 (bT n))/\w=w':=by
 by_cases h:n<0
 ·rw[(oW (qX h)).1];go_enter func261,ntmps261;go_wp2;go_ret;exact⟨rfl,rfl⟩
 ·by_cases a:89478484<n
  ·rw[(oW (qY a)).1];go_enter func261,ntmps261;go_wp2;go_ret;exact⟨rfl,rfl⟩
  ·rw[(sU (n:=n) (by omega)).1];obtain⟨k,rfl⟩:∃k:Nat,n=k:=⟨n.toNat,by omega⟩
   go_enter func261,ntmps261;go_wp2;go_ret;exact⟨ln (by omega),rfl⟩
theorem oA(n:Int)(w:World):
  Calls prog 223 #[.int .i64 n] w fun e w'=>e = .returned (.int .i64 (fe n))/\w=w':=by
 have c:=qQ (Xn n w);by_cases h:n<0∨89478484<n
 ·obtain⟨a,b⟩:=oW h;rw[a]at c;rw[b];clear h a b;go_enter func223,ntmps223;go_wp2_with fail;refine c.out.mono ?_;rintro e w'⟨rfl,rfl⟩;go_wp2;go_ret;exact⟨rfl,rfl⟩
 ·obtain⟨a,b⟩:=sU h;obtain⟨k,rfl⟩:∃k:Nat,n=k:=⟨n.toNat,by omega⟩
  obtain⟨z,d⟩:∃z:Nat,z=12+24*k:=⟨_,rfl⟩
  rw[a,show(12:Int)+24*(k:Nat)=(z:Nat) by omega]at c;rw[b];have g:((z:Int)==0)=false:=qy.2 (by omega);have f:k<=89478484:=by omega
  clear h a b d;go_enter func223,ntmps223;go_wp2_with fail;refine c.out.mono ?_;rintro e w'⟨rfl,rfl⟩;go_wp2;go_ret;exact⟨ln (by omega),rfl⟩
def dG(s:Tw):Bool:=decide (8<=s.size/\s.extract 0 4=bs mR)
def fQ(s:Tw):Int:=if dG s=true then(tbN s:Nat) else 0
theorem Gi: (⟨#[112,116,97,98]⟩:Tw)=bs mR:=rfl
theorem Gw(s:Tw)(a:8<=s.size):ui s ⟨#[112,116,97,98]⟩=dG s:=by
 unfold ui dG;rw[Gi,decide_eq_decide];have:(bs mR).size=4:=rfl;rw[this];exact⟨fun h=>⟨a,h.2⟩,fun h=>⟨by omega,h.2⟩⟩
theorem BQ(s:Tw)(w:World)(c:s.size<=maxLen):
  Calls prog 268 #[.string s] w fun e w'=>e = .returned (.tuple #[.int .i64 (fQ s),.bool (dG s)])/\w=w':=by
 by_cases j:s.size<8
 ·have b:dG s=false:=qG (fun h=>by omega);have g:fQ s=0:=by unfold fQ;rw[b];rfl
  rw[b,g];have q:decide ((s.size:Int)<8)=true:=qW (by omega);clear b g;unfold maxLen at c;go_enter func268,ntmps268;go_wp2;go_ret2;exact⟨rfl,rfl⟩
 ·have a:=fun W=>pr s ⟨#[112,116,97,98]⟩ W c (by decide)
  rw[Gw s (by omega)]at a;have d:=qQ fun W=>gQ (s.extract 4 8) W (by unfold maxLen at*;rw[qS];omega)
  have i:jJ (s.extract 4 8)=tbN s:=rfl
  have t:tbN s<4294967296:=by
   have h:=cA ((s.extract 4 8).data.toList.take 8);have p:(256:Nat) ^ 4=4294967296:=(by decide);have o:((s.extract 4 8).data.toList.take 8).length<=4:=(by rw[qq,uJ,qS];omega);exact qP h (by rw[<-p];exact Nat.pow_le_pow_right (by decide) o)
  unfold fQ;rw[i]at d;clear i;have q:decide ((s.size:Int)<8)=false:=qG (by omega);have u:(8:Int)<=(s.size:Int):=by omega
  have y:8<=s.size:=by omega
  generalize tbN s=n at*;unfold maxLen at c;have f:=qQ a;clear a j;cases e:dG s
  all_goals
   rw[e]at f;clear e;go_enter func268,ntmps268;go_wp2_with fail;refine(f.out _).mono ?_;rintro e r⟨rfl,rfl⟩
   first
   | (go_wp2
      go_ret2;exact⟨rfl,rfl⟩)
   | (go_wp2_with fail
      refine(d.out _).mono ?_;rintro e r⟨rfl,rfl⟩;go_wp2;go_ret2;exact⟨rfl,rfl⟩)
theorem BX(x y:zn):((((x.h:Int)==(y.h:Int))&&(x.v==y.v))&&(x.p==y.p))=decide (x=y):=by
 rw[Bool.eq_iff_iff,Bool.and_eq_true,Bool.and_eq_true,beq_iff_eq,beq_iff_eq,beq_iff_eq,decide_eq_true_iff];constructor
 ·rintro ⟨⟨c,a⟩,b⟩;exact mO (by omega) a b
 ·rintro rfl;exact⟨⟨rfl,rfl⟩,rfl⟩
theorem BZ(x y:zn)(w:World):(Op.equalIn 10000 117 (ji x) (ji y)).run prog w = .ok (decide (x=y)) w:=by
 rw[show(10000:Nat)=9998+1+1 from rfl,run_equalIn_agg w 9999 117 _ _ Tryz.underlying117 Tryz.stoodInHeld117];have e:=BX x y;by_cases a:(x.h:Int)=(y.h:Int)
 ·by_cases b:x.v=y.v
  ·by_cases c:x.p=y.p
   ·have:x=y:=mO (by omega) b c;rw[qW this];simp[Op.eqFields,go_sem,a,b,c]
   ·have:¬x=y:=fun h=>c (by rw[h])
    rw[qG this];simp[Op.eqFields,go_sem,a,b,c]
  ·have:¬x=y:=fun h=>b (by rw[h])
   rw[qG this];simp[Op.eqFields,go_sem,a,b]
 ·have:¬x=y:=fun h=>a (by rw[h])
  rw[qG this];simp[Op.eqFields,go_sem,a]
theorem Xp(x y:zn)(w:World):(binOp .eql 117 (ji x) (ji y)).run prog w = .ok (.bool (decide (x=y))) w:=by
 rw[run_eql_struct,BZ];rfl
theorem BJ(w:World)(o a:Obj):Below w.heap.size w ((w.alloc o).alloc a):=((Below.refl _ _).alloc (qZ _) _).alloc (by simp) _
theorem fo(x y:zn)(w:World):
  Calls prog 172 #[ji x,ji y] w fun e w'=>e = .returned (.bool (jE x y))/\Below w.heap.size w w':=by
 obtain⟨h,v,p⟩:=x;obtain⟨a,v',d⟩:=y;have b:=BJ w (.cells #[.int .u64 (h:Nat),.int .i64 v,.int .i64 p] 117) (.cells #[.int .u64 (a:Nat),.int .i64 v',.int .i64 d] 117);have e:=dY (x:=⟨h,v,p⟩) (y:=⟨a,v',d⟩);simp only at e;generalize jE ⟨h,v,p⟩ ⟨a,v',d⟩=q at*;by_cases c:h=a
 ·subst c;by_cases c:v=v'
  ·subst c;by_cases c:p<d
   ·obtain rfl:q=true:=e.2 (by omega);clear e;go_enter func172,ntmps172;go_wp2;go_ret;exact⟨rfl,b⟩
   ·obtain rfl:q=false:=Bool.eq_false_iff.2 (fun t=>by have:=e.1 t;omega);clear e;go_enter func172,ntmps172;go_wp2;go_ret;exact⟨rfl,b⟩
  ·by_cases c2:v<v'
   ·obtain rfl:q=true:=e.2 (by omega);clear e;go_enter func172,ntmps172;go_wp2;go_ret;exact⟨rfl,b⟩
   ·obtain rfl:q=false:=Bool.eq_false_iff.2 (fun t=>by have:=e.1 t;omega);clear e;go_enter func172,ntmps172;go_wp2;go_ret;exact⟨rfl,b⟩
 ·by_cases c2:h<a
  ·obtain rfl:q=true:=e.2 (by omega);clear e;have f:((h:Int) != (a:Int))=true:=(by simp;omega);have g:decide ((h:Int)<(a:Int))=true:=qW (by omega);go_enter func172,ntmps172;go_wp2;go_ret;exact⟨rfl,b⟩
  ·obtain rfl:q=false:=Bool.eq_false_iff.2 (fun t=>by have:=e.1 t;omega);clear e;have f:((h:Int) != (a:Int))=true:=(by simp;omega);have g:decide ((h:Int)<(a:Int))=false:=qG (by omega);go_enter func172,ntmps172;go_wp2;go_ret;exact⟨rfl,b⟩
theorem sG(x:zn)(w:World):
  Calls prog 204 #[ji x] w fun e w'=>e = .returned (.bool (mayE x))/\Below w.heap.size w w':=by
 obtain⟨h,v,p⟩:=x;have a:=(Below.refl w.heap.size w).alloc (qZ _) (.cells #[.int .u64 (h:Nat),.int .i64 v,.int .i64 p] 117);have e:mayE ⟨h,v,p⟩=decide (0<=v/\0<=p):=rfl;rw[e];clear e;by_cases c:0<=v
 ·by_cases c2:0<=p
  ·rw[qW ⟨c,c2⟩];go_enter func204,ntmps204;go_wp2;go_ret;exact⟨rfl,a⟩
  ·rw[qG (fun x=>c2 x.2)];go_enter func204,ntmps204;go_wp2;go_ret;exact⟨rfl,a⟩
 ·rw[qG (fun x=>c x.1)];go_enter func204,ntmps204;go_wp2;go_ret;exact⟨rfl,a⟩
end
section
open Go.RowKit Go.Shelf
theorem jb.form{w:World}{v:Value}{l:List zn}(h:jb w v l):∃A off d,v = .slice A l.length d/\l.length<=maxLen /\
  ∀i x,l[i]? = some x->∃b,A=some ⟨b,off,none⟩/\b<w.heap.size/\w.cell? ⟨b,off+i*3,none⟩=some (.int .u64 (x.h:Nat))/\w.cell? ⟨b,off+i*3+1,none⟩=some (.int .i64 x.v)/\w.cell? ⟨b,off+i*3+2,none⟩=some (.int .i64 x.p):=by
 rcases h with⟨rfl,a,c,rfl⟩|⟨b,off,d,rfl,n,o,j,f⟩
 ·exact⟨a,0,c,rfl,qH _,fun i x h=>by simp at h⟩
 ·exact⟨some ⟨b,off,none⟩,off,d,rfl,by omega,fun i x g=>⟨b,rfl,j,f i x g 0 _ rfl,f i x g 1 _ rfl,f i x g 2 _ rfl⟩⟩
def BK(q:zn->Bool)(l:List zn)(w:World)(e:Ending)(w':World):Prop:=∃k:Nat,k<=l.length/\e = .returned (.int .i64 (k:Nat))/\(∀K,K<=l.length->vm q l K->k=K)/\Below w.heap.size w w'
theorem BV(a b:Nat)(h:a<=b):((b:Int)-(a:Int)).tdiv 2=(((b-a)/2:Nat):Int):=by
 have e:(b:Int)-(a:Int)=((b-a:Nat):Int):=by omega
 rw[e];rfl
theorem BY(a b:Nat)(h:a<=b):((b-a:Nat):Int)/2=(((b-a)/2:Nat):Int):=rfl
theorem Xr(f:FuncId)(g:Nat)(q:zn->Bool)(v:Value)(l:List zn)(w:World)(X:jb w v l)(hn:l.length<=1000000)(hE:Enters prog f)
  (S:∀(x:zn) (W:World),Below w.heap.size w W->Calls prog f #[ji x,.pointer (some ⟨g,0,none⟩)] W fun e W'=>e = .returned (.bool (q x))/\Below W.heap.size W W'):
  Calls prog 255 #[v,.func (.func f) #[] #[.pointer (some ⟨g,0,none⟩)]] w (BK q l w):=by
 obtain⟨A,off,ab,rfl,-,T⟩:=X.form;have Y:=qQ S;have HL:=qQ T;unfold Enters at hE;obtain⟨n,C⟩:∃n,n=l.length:=⟨_,rfl⟩
 have s:=qQ C;rw[<-C]at hn ⊢;clear X S T C;go_enter func255,ntmps255;go_wp2;go_step3;go_wp2;go_step3;go_wp2;go_loopw [5,6] (fun G B wr=>∃a b:Nat,a<=b/\b<=n/\G = .int .i64 a/\B = .int .i64 b/\(∀K,K<=n->vm q l K->a<=K/\K<=b)/\Below w.heap.size w wr) (fun G B _=>(intOf B).toNat-(intOf G).toNat)
 case atStart=>exact⟨0,n,qH _,qZ _,rfl,rfl,fun K h _=>⟨qH _,h⟩,Below.refl _ _⟩
 case round =>
  obtain⟨a,b,O,R,rfl,rfl,N,i⟩:=hrel;have r:=qQ N;clear N;have hm:=BV a b O;have aa:=BY a b O;by_cases ad:a<b
  ·have t:((a:Int)==(b:Int))=false:=qy.2 (by omega);obtain⟨d,U⟩:∃d,d=(b-a)/2:=⟨_,rfl⟩
   rw[<-U]at hm aa;have ae:a+d<b:=(by omega);have ac:(d:Int)<=1000000:=(by omega);obtain⟨x,F⟩:∃x,l[a+d]? = some x:=⟨_,qD (by rw[<-s.out];omega)⟩
   have I:=qQ F;obtain⟨u,rfl,y,J,L,M⟩:=HL.out (a+d) _ F;have c0:=(i.cell (p:=⟨u,off+(a+d)*3,none⟩) y).trans J;have c1:=(i.cell (p:=⟨u,off+(a+d)*3+1,none⟩) y).trans L;have c2:=(i.cell (p:=⟨u,off+(a+d)*3+2,none⟩) y).trans M;clear J L M F U;have z:=Y.out x wr i;cases D:q x
   all_goals
    rw[D]at z;have Z:=qQ z;have H:=qQ D;clear D z;go_wp2_with fail;refine Z.out.mono ?_;rintro e w2⟨rfl,P⟩;have Q:=bj i P;clear i P c0 c1 c2;go_wp2;go_roundw
    case rel =>
     first
     | exact⟨a+d+1,b,by omega,R,by go_num,rfl,fun K j c=>⟨by have o:=c (a+d) x I.out;rw[H.out]at o;have:=of_decide_eq_true o.symm;omega,(r.out K j c).2⟩,Q⟩
     | exact⟨a,a+d,by omega,by omega,rfl,by go_num,fun K j c=>⟨(r.out K j c).1,by have o:=c (a+d) x I.out;rw[H.out]at o;have:=of_decide_eq_false o.symm;omega⟩,Q⟩
    case measure=>simp[intOf];omega
  ·obtain rfl:a=b:=(by omega);go_wp2;go_ret;exact⟨a,by rw[<-s.out];exact R,rfl,fun K j c=>by have:=r.out K (by rw[s.out];exact j) c;omega,i⟩
end
section
open Go.RowKit
def vR(l:List zn):List Value:=l.flatMap bR
theorem fw: ∀l:List zn,(vR l).length=l.length*3
 | []=>rfl
 | x::l=>by
   unfold vR;rw[List.flatMap_cons,qI];have:=fw l;unfold vR at this;rw[this,qk];show 3+_=_;omega
theorem fX: ∀(l:List zn) (i:Nat) (x:zn),l[i]? = some x->∀j,j<3->(vR l)[i*3+j]? = (bR x)[j]?
 | [],i,x,h=>by simp at h
 | y::l,0,x,h=>by
   intro j a;obtain rfl:y=x:=(by simpa using h);unfold vR;rw[List.flatMap_cons,Nat.zero_mul,Nat.zero_add,List.getElem?_append_left (by exact a)]
 | y::l,i+1,x,h=>by
   intro j a;have b:l[i]? = some x:=(by simpa using h);have e:(i+1)*3+j=3+(i*3+j):=(by omega);have:=fX l i x b j a;unfold vR at*;rw[List.flatMap_cons,e,List.getElem?_append_right (by show 3<=_;omega)];show(l.flatMap bR)[3+(i*3+j)-3]? = _;rw[Nat.add_sub_cancel_left];exact this
theorem BU{l:List zn}:∀u∈vR l,u.oneCell'=true:=by
 intro u b;unfold vR at b;obtain⟨f,_,a⟩:=List.mem_flatMap.1 b;simp only[bR,List.mem_cons,List.not_mem_nil,or_false]at a;rcases a with rfl|rfl|rfl<;>rfl
theorem Xs(a b:List zn):vR (a++b)=vR a++vR b:=by unfold vR;rw[List.flatMap_append]
abbrev jC(w:World)(base:Nat)(v:Value)(l:List zn):Prop:=w.ownsRow base 117 3 v l.length (vR l)
theorem jC.qw{w:World}{base:Nat}{v:Value}{l:List zn}(h:jC w base v l):jb w v l:=by
 have b:=h;rcases h.2 with⟨a,n⟩|⟨g,f,t,a,y,o,s,r,A,B⟩
 ·exact qX ⟨List.length_eq_zero_iff.1 n,none,0,a⟩
 ·by_cases q:l=[]
  ·subst q;exact qX ⟨rfl,_,_,a⟩
  ·refine qY ⟨g,0,f,a,s,r,(qb.1 o).1,fun i x d j u c=>?_⟩;have z:i<l.length:=(qM.1 d).1;have p:j<3:=(by have:=(qM.1 c).1;exact this);rw[a]at b;rw[Nat.zero_add];exact(b.cellAt (i*3+j) (by omega)).trans ((fX l i x d j p).trans c)
theorem jC.below{w w':World}{base B:Nat}{v:Value}{l:List zn}(h:jC w base v l)(i:Below B w w')(f:w.heap.size<=B):jC w' base v l:=by
 refine⟨h.1, ?_⟩;rcases h.2 with d|⟨g,b,c,o,j,a,r⟩
 ·exact qX d
 ·obtain⟨n,_⟩:=qb.1 a;exact qY ⟨g,b,c,o,j,(i.block g (qP n f)).trans a,r⟩
theorem jC.block{w:World}{base:Nat}{v:Value}{l:List zn}(h:jC w base v l):∀k,v.ownBlock=some k->base<=k:=by
 intro k a;rcases h.2 with⟨rfl,_⟩|⟨g,c,d,rfl,b,_⟩
 ·cases a
 ·cases a;exact b
theorem jC.nil(w:World)(base:Nat):jC w base (.slice none 0 0) []:=World.ownsRow_nil _ _ _ _
theorem sW: (prog.info? 117).map (fun i=>(i.zero,i.size,i.bytes))=some (some (.agg #[.int .u64 0,.int .i64 0,.int .i64 0]),3,24):=by kernel_rfl
theorem jb.src{w:World}{v:Value}{l:List zn}(h:jb w v l):cW w 3 v l.length (vR l):=by
 refine⟨fw l, ?_⟩;rcases h with⟨rfl,a,c,rfl⟩|⟨b,off,i,rfl,q,r,s,o⟩
 ·cases a with
  | none=>exact qX ⟨c,rfl,rfl⟩
  | some a=>exact qY ⟨a,c,rfl,fun j u d=>by cases d⟩
 ·refine qY ⟨⟨b,off,none⟩,i,rfl,fun j u d=>?_⟩;have t:j<l.length*3:=by have:=(qM.1 d).1;rw[fw]at this;exact this
  have p:j/3<l.length:=by omega
  have g:l[j/3]? = some l[j/3]:=qD p;have e:j/3*3+j%3=j:=by omega
  have f:=fX l (j/3) _ g (j%3) (by omega);rw[e,d]at f;have:=o (j/3) _ g (j%3) u f.symm;rw[e]at this;have n:(⟨b,off,none⟩:Addr).add j=⟨b,off+j,none⟩:=by unfold Addr.add;split<;>simp_all
  rw[n];exact this
theorem Xt(w:World)(x:zn):jb (w.alloc (.cells #[.int .u64 (x.h:Nat),.int .i64 x.v,.int .i64 x.p] 117)) (.slice (some ⟨w.heap.size,0,none⟩) 1 1) [x]:=by
 refine qY ⟨w.heap.size,0,1,rfl,qZ _,by unfold maxLen;omega,by simp,fun i y b j u a=>?_⟩
 match i,b with
 | 0,b =>
   obtain rfl:x=y:=by simpa using b
   match j,a with
   | 0,a=>rw[<-a];simp[bR]
   | 1,a=>rw[<-a];simp[bR]
   | 2,a=>rw[<-a];simp[bR]
theorem mS{w:World}{base:Nat}{vs a:Value}{l m:List zn}(o:jC w base vs l)(p:jb w a m)(u:l.length+m.length<=1000000)(j:base<=w.heap.size)(d:TypeId):
  ∃A c w',(Builtin.append_ #[112,112] d #[vs,a]).run prog w = .ok (.slice A (l.length+m.length) c) w'/\jC w' base (.slice A (l.length+m.length) c) (l++m)/\w.grownBy w' vs.ownBlock/\((Value.slice A (l.length+m.length) c).ownBlock=vs.ownBlock∨(Value.slice A (l.length+m.length) c).ownBlock=some w.heap.size):=by
 obtain⟨t,n,q,r,s⟩:=info_parts sW;obtain⟨v',w',f,b,g,i⟩:=cr (P:=prog) w base 112 117 t _ 3 24 d Tryz.underlying112 n q r s rfl (by decide) vs l.length (vR l) o a m.length (vR m) p.src BU (by unfold maxLen;omega) (by omega) j;obtain⟨A,c,rfl,-,-,-⟩:=v8 b;refine⟨A,c,w',f, ?_,g,i⟩;unfold jC;rw[Xs,qI];exact b
theorem mT{B:Nat}{w w':World}{v:Value}(h:w.grownBy w' v.ownBlock)(b:B<=w.heap.size)(a:∀k,v.ownBlock=some k->B<=k):Below B w w':=⟨h.os,h.tape,h.output,h.size,fun k c=>h.block k (by omega) (fun e=>by have:=a k e.symm;omega)⟩
theorem Xa(a:Option Addr)(c:Nat):∃A b,sliced a 0 0 c 3 = .slice A 0 b:=by unfold sliced;exact⟨_,_,rfl⟩
section
variable {w:World}{v:Value}{l:List zn}{k m:Nat}
theorem Xe{b off a:Nat}(r:l.length<=a)(s:a<=maxLen)(t:k<=m)(y:m<=l.length):
  ∃A,sliced (some ⟨b,off,none⟩) k m a 3 = .slice A (m-k) (a-k)/\∀W,b<W.heap.size->(∀i x,l[i]? = some x->∀j u,(bR x)[j]? = some u->W.cell? ⟨b,off+(i*3+j),none⟩=some u)->jb W (.slice A (m-k) (a-k)) ((l.drop k).take (m-k)):=by
 have c:((l.drop k).take (m-k)).length=m-k:=by rw[qq,List.length_drop];omega
 by_cases f:m-k=0
 ·have p:∃A,sliced (some (⟨b,off,none⟩:Addr)) k m a 3 = .slice A (m-k) (a-k):=by unfold sliced;exact⟨_,rfl⟩
  obtain⟨A,e⟩:=p;refine⟨A,e,fun W _ _=>qX ⟨List.length_eq_zero_iff.1 (by rw[c];exact f),A,_,by rw[f]⟩⟩
 ·have e:sliced (some (⟨b,off,none⟩:Addr)) k m a 3 = .slice (some ⟨b,off+k*3,none⟩) (m-k) (a-k):=by
   unfold sliced;rw[qJ (by omega)];simp[Addr.add]
  refine⟨_,e,fun W g n=>qY ⟨b,off+k*3,a-k,by rw[c],by omega,by omega,g,fun i x d j u q=>?_⟩⟩;have o:i<m-k:=by have:=(qM.1 d).1;rw[c]at this;exact this
  rw[List.getElem?_take,qK o,List.getElem?_drop]at d;have:=n (k+i) x d j u q;rw[show off+k*3+(i*3+j)=off+((k+i)*3+j) by omega];exact this
theorem BG(h:jb w v l)(C:k<=m)(o:m<=l.length):∃A c,
  (∀W,(Instr.slice 112 v (some (.int .i64 (k:Nat))) (some (.int .i64 (m:Nat))) none).run prog W = .ok (.slice A (m-k) c) W)/\∀B W,w.heap.size<=B->Below B w W->jb W (.slice A (m-k) c) ((l.drop k).take (m-k)):=by
 have q:∀W,(sizeOf (prog.elem 112)).run prog W = .ok 3 W:=fun W=>by simp[go_sem]
 rcases h with⟨rfl,a,c,rfl⟩|⟨b,off,f,rfl,r,s,g,t⟩
 ·obtain rfl:m=0:=by simpa using o
  obtain rfl:k=0:=by omega
  obtain⟨A,d,e⟩:=Xa a c;refine⟨A,d,fun W=>?_,fun B W _ _=>qX ⟨by simp,A,d,rfl⟩⟩;rw[run_slice_lh W _ a 0 c Tryz.underlying112 .i64 .i64 _ _ (by omega) (by omega) (by omega),q];show Result.ok (sliced _ _ _ _ _) W=_;rw[qh,e]
 ·obtain⟨A,e,y⟩:=Xe (l:=l) (b:=b) (off:=off) r s C o;refine⟨A,f-k,fun W=>?_,fun B W z n=>y W (qP g n.size) fun i x F j u D=>(n.cell (p:=⟨b,off+(i*3+j),none⟩) (qP g z)).trans (t i x F j u D)⟩;rw[run_slice_lh W _ _ _ f Tryz.underlying112 .i64 .i64 _ _ (by omega) (by omega) (by omega),q];show Result.ok (sliced _ _ _ _ _) W=_;rw[qh,qh,e]
theorem Xi(h:jb w v l)(q:k<=l.length):∃A c,
  (∀W,(Instr.slice 112 v (some (.int .i64 (k:Nat))) none none).run prog W = .ok (.slice A (l.length-k) c) W)/\∀B W,w.heap.size<=B->Below B w W->jb W (.slice A (l.length-k) c) (l.drop k):=by
 have r:∀W,(sizeOf (prog.elem 112)).run prog W = .ok 3 W:=fun W=>by simp[go_sem]
 rcases h with⟨rfl,a,c,rfl⟩|⟨b,off,f,rfl,t,y,g,z⟩
 ·obtain rfl:k=0:=by simpa using q
  obtain⟨A,d,e⟩:=Xa a c;refine⟨A,d,fun W=>?_,fun B W _ _=>qX ⟨by simp,A,d,rfl⟩⟩;rw[run_slice_l W _ a 0 c Tryz.underlying112 .i64 _ (by omega) (by omega),r];show Result.ok (sliced _ _ _ _ _) W=_;rw[qh,e];rfl
 ·obtain⟨A,e,n⟩:=Xe (l:=l) (b:=b) (off:=off) t y q (qZ _);have s:(l.drop k).take (l.length-k)=l.drop k:=qg (by rw[List.length_drop];omega);rw[s]at n;refine⟨A,f-k,fun W=>?_,fun B W C o=>n W (qP g o.size) fun i x F j u D=>(o.cell (p:=⟨b,off+(i*3+j),none⟩) (qP g C)).trans (z i x F j u D)⟩;rw[run_slice_l W _ _ _ f Tryz.underlying112 .i64 _ (by omega) (by omega),r];show Result.ok (sliced _ _ _ _ _) W=_;rw[qh,e]
end
end
section
open Go.ChangeShapes Go.WideShapes Go.ChangeAt Go.RowKit Go.Deep
structure kL where
 e:zn
 k:Int
def cD(x:kL):List Value:=[.int .u64 (x.e.h:Nat),.int .i64 x.e.v,.int .i64 x.e.p,.int .i64 x.k]
def uG(w:World)(v:Value)(l:List kL):Prop :=
 (l=[]/\∃a c,v = .slice a 0 c)∨∃b off d,v = .slice (some ⟨b,off,none⟩) l.length d/\l.length<=d/\d<=maxLen/\b<w.heap.size /\
  ∀i x,l[i]? = some x->∀j u,(cD x)[j]? = some u->w.cell? ⟨b,off+(i*4+j),none⟩=some u
theorem uG.below{w w':World}{v:Value}{l:List kL}{B:Nat}(h:uG w v l)(a:Below B w w')(f:w.heap.size<=B):uG w' v l:=by
 rcases h with h|⟨b,off,d,r,n,o,c,g⟩
 ·exact qX h
 ·exact qY ⟨b,off,d,r,n,o,qP c a.size,fun i x s j u q=>(a.cell (p:=⟨b,off+(i*4+j),none⟩) (qP c f)).trans (g i x s j u q)⟩
theorem uG.form{w:World}{v:Value}{l:List kL}(h:uG w v l):∃A off g,v = .slice A l.length g/\l.length<=maxLen /\
  ∀i x,l[i]? = some x->∃b,A=some ⟨b,off,none⟩/\b<w.heap.size/\w.cell? ⟨b,off+i*4,none⟩=some (.int .u64 (x.e.h:Nat))/\w.cell? ⟨b,off+i*4+1,none⟩=some (.int .i64 x.e.v)/\w.cell? ⟨b,off+i*4+2,none⟩=some (.int .i64 x.e.p) /\
   w.cell? ⟨b,off+i*4+3,none⟩=some (.int .i64 x.k):=by
 rcases h with⟨rfl,a,c,rfl⟩|⟨b,off,g,rfl,n,o,j,d⟩
 ·exact⟨a,0,c,rfl,qH _,fun i x h=>by simp at h⟩
 ·exact⟨some ⟨b,off,none⟩,off,g,rfl,by omega,fun i x f=>⟨b,rfl,j,d i x f 0 _ rfl,d i x f 1 _ rfl,d i x f 2 _ rfl,d i x f 3 _ rfl⟩⟩
def uW(l:List kL):List Value:=l.flatMap cD
theorem sA: ∀l:List kL,(uW l).length=l.length*4
 | []=>rfl
 | x::l=>by
   unfold uW;rw[List.flatMap_cons,qI];have:=sA l;unfold uW at this;rw[this,qk];show 4+_=_;omega
theorem sB: ∀(l:List kL) (i:Nat) (x:kL),l[i]? = some x->∀j,j<4->(uW l)[i*4+j]? = (cD x)[j]?
 | [],i,x,h=>by simp at h
 | y::l,0,x,h=>by
   intro j a;obtain rfl:y=x:=(by simpa using h);unfold uW;rw[List.flatMap_cons,Nat.zero_mul,Nat.zero_add,List.getElem?_append_left (by exact a)]
 | y::l,i+1,x,h=>by
   intro j a;have b:l[i]? = some x:=(by simpa using h);have e:(i+1)*4+j=4+(i*4+j):=(by omega);have:=sB l i x b j a;unfold uW at*;rw[List.flatMap_cons,e,List.getElem?_append_right (by show 4<=_;omega)];show(l.flatMap cD)[4+(i*4+j)-4]? = _;rw[Nat.add_sub_cancel_left];exact this
theorem BW{l:List kL}:∀u∈uW l,u.oneCell'=true:=by
 intro u b;unfold uW at b;obtain⟨f,_,a⟩:=List.mem_flatMap.1 b;simp only[cD,List.mem_cons,List.not_mem_nil,or_false]at a;rcases a with rfl|rfl|rfl|rfl<;>rfl
theorem BA(a b:List kL):uW (a++b)=uW a++uW b:=by unfold uW;rw[List.flatMap_append]
abbrev vC(w:World)(base:Nat)(v:Value)(l:List kL):Prop:=w.ownsRow base 304 4 v l.length (uW l)
theorem vC.qw{w:World}{base:Nat}{v:Value}{l:List kL}(h:vC w base v l):uG w v l:=by
 have b:=h;rcases h.2 with⟨a,n⟩|⟨g,f,t,a,y,o,s,r,A,B⟩
 ·exact qX ⟨List.length_eq_zero_iff.1 n,none,0,a⟩
 ·by_cases q:l=[]
  ·subst q;exact qX ⟨rfl,_,_,a⟩
  ·refine qY ⟨g,0,f,a,s,r,(qb.1 o).1,fun i x d j u c=>?_⟩;have z:i<l.length:=(qM.1 d).1;have p:j<4:=(by have:=(qM.1 c).1;exact this);rw[a]at b;rw[Nat.zero_add];exact(b.cellAt (i*4+j) (by omega)).trans ((sB l i x d j p).trans c)
theorem vC.below{w w':World}{base B:Nat}{v:Value}{l:List kL}(h:vC w base v l)(i:Below B w w')(f:w.heap.size<=B):vC w' base v l:=by
 refine⟨h.1, ?_⟩;rcases h.2 with d|⟨g,b,c,o,j,a,r⟩
 ·exact qX d
 ·obtain⟨n,_⟩:=qb.1 a;exact qY ⟨g,b,c,o,j,(i.block g (qP n f)).trans a,r⟩
theorem vC.alloc{w:World}{base:Nat}{v:Value}{l:List kL}(h:vC w base v l)(o:Obj):vC (w.alloc o) base v l:=vC.below h ((Below.refl w.heap.size w).alloc (qZ _) o) (qZ _)
theorem vC.block{w:World}{base:Nat}{v:Value}{l:List kL}(h:vC w base v l):∀k,v.ownBlock=some k->base<=k:=by
 intro k a;rcases h.2 with⟨rfl,_⟩|⟨g,c,d,rfl,b,_⟩
 ·cases a
 ·cases a;exact b
theorem vC.nil(w:World)(base:Nat):vC w base (.slice none 0 0) []:=World.ownsRow_nil _ _ _ _
theorem BC: (prog.info? 304).map (fun i=>(i.zero,i.size,i.bytes))=some (some (.agg #[.int .u64 0,.int .i64 0,.int .i64 0,.int .i64 0]),4,32):=by kernel_rfl
theorem uG.src{w:World}{v:Value}{l:List kL}(h:uG w v l):cW w 4 v l.length (uW l):=by
 refine⟨sA l, ?_⟩;rcases h with⟨rfl,a,c,rfl⟩|⟨b,off,i,rfl,q,r,s,o⟩
 ·cases a with
  | none=>exact qX ⟨c,rfl,rfl⟩
  | some a=>exact qY ⟨a,c,rfl,fun j u d=>by cases d⟩
 ·refine qY ⟨⟨b,off,none⟩,i,rfl,fun j u d=>?_⟩;have t:j<l.length*4:=by have:=(qM.1 d).1;rw[sA]at this;exact this
  have p:j/4<l.length:=by omega
  have g:l[j/4]? = some l[j/4]:=qD p;have e:j/4*4+j%4=j:=by omega
  have f:=sB l (j/4) _ g (j%4) (by omega);rw[e,d]at f;have:=o (j/4) _ g (j%4) u f.symm;rw[e]at this;have n:(⟨b,off,none⟩:Addr).add j=⟨b,off+j,none⟩:=by unfold Addr.add;split<;>simp_all
  rw[n];exact this
theorem BD(w:World)(x:kL):uG (w.alloc (.cells #[.int .u64 (x.e.h:Nat),.int .i64 x.e.v,.int .i64 x.e.p,.int .i64 x.k] 304)) (.slice (some ⟨w.heap.size,0,none⟩) 1 1) [x]:=by
 refine qY ⟨w.heap.size,0,1,rfl,qZ _,by unfold maxLen;omega,by simp,fun i y b j u a=>?_⟩
 match i,b with
 | 0,b =>
   obtain rfl:x=y:=by simpa using b
   match j,a with
   | 0,a=>rw[<-a];simp[cD]
   | 1,a=>rw[<-a];simp[cD]
   | 2,a=>rw[<-a];simp[cD]
   | 3,a=>rw[<-a];simp[cD]
theorem BE{w:World}{base:Nat}{vs a:Value}{l m:List kL}(o:vC w base vs l)(p:uG w a m)(u:l.length+m.length<=1000000)(j:base<=w.heap.size)(d:TypeId):
  ∃A c w',(Builtin.append_ #[234,234] d #[vs,a]).run prog w = .ok (.slice A (l.length+m.length) c) w'/\vC w' base (.slice A (l.length+m.length) c) (l++m)/\w.grownBy w' vs.ownBlock/\((Value.slice A (l.length+m.length) c).ownBlock=vs.ownBlock∨(Value.slice A (l.length+m.length) c).ownBlock=some w.heap.size):=by
 obtain⟨t,n,q,r,s⟩:=info_parts BC;obtain⟨v',w',f,b,g,i⟩:=cr (P:=prog) w base 234 304 t _ 4 32 d Tryz.underlying234 n q r s rfl (by decide) vs l.length (uW l) o a m.length (uW m) p.src BW (by unfold maxLen;omega) (by omega) j;obtain⟨A,c,rfl,-,-,-⟩:=v8 b;refine⟨A,c,w',f, ?_,g,i⟩;unfold vC;rw[BA,qI];exact b
end
section
open Go.RowKit
def gI(n k:Nat):Bool:=decide (k%8=0)||decide (k+1=n)
def vD(l:List zn):Nat->List kL
 | 0=>[]
 | k+1=>vD l k++(if gI l.length k=true then(match l[k]? with | some x=>[⟨x,(k:Nat)⟩] | none=>[]) else [])
def jw(l:List zn):List kL:=vD l l.length
theorem oB{l:List zn}{k:Nat}{x:zn}(h:l[k]? = some x)(a:gI l.length k=true):vD l (k+1)=vD l k++[⟨x,(k:Nat)⟩]:=by
 rw[vD,qK a,h]
theorem Xo{l:List zn}{k:Nat}(a:gI l.length k=false):vD l (k+1)=vD l k:=by
 rw[vD,qJ (by rw[a];decide),List.append_nil]
theorem sC(l:List zn):∀k,(vD l k).length<=k
 | 0=>qZ _
 | k+1=>by
   have:=sC l k;rw[vD,qI];split
   ·split<;>simp<;>omega
   ·simp;omega
def bQ(n:Nat):Nat:=if n=0 then 0 else(n-1+7)/8+1
def cE(n j:Nat):Nat:=min (8*j) (n-1)
theorem Xw(l:List zn):∀k,k<l.length->(vD l k).length=(k+7)/8/\∀j,j<(k+7)/8->∃x,l[8*j]? = some x/\(vD l k)[j]? = some ⟨x,((8*j:Nat):Int)⟩
 | 0,h=>⟨rfl,fun j i=>by omega⟩
 | k+1,h=>by
   obtain⟨b,d⟩:=Xw l k (by omega);have g:l[k]? = some l[k]:=qD (by omega);by_cases f:k%8=0
   ·have e:gI l.length k=true:=(by unfold gI;rw[qW f];rfl);rw[oB g e,qI,b];refine⟨by simp;omega,fun j i=>?_⟩;rcases Nat.lt_or_ge j ((k+7)/8) with c|c
    ·obtain⟨y,n,o⟩:=d j c;exact⟨y,n,by rw[List.getElem?_append_left (by rw[b];exact c)];exact o⟩
    ·obtain rfl:j=(k+7)/8:=(by omega);have a:8*((k+7)/8)=k:=(by omega);refine⟨l[k],by rw[a];exact g, ?_⟩;rw[List.getElem?_append_right (by omega),b,Nat.sub_self,a];rfl
   ·have e:gI l.length k=false:=(by unfold gI;rw[qG f,qG (by omega)];rfl);rw[Xo e];have a:(k+1+7)/8=(k+7)/8:=(by omega);rw[a];exact⟨b,d⟩
theorem sD(l:List zn):(jw l).length=bQ l.length/\∀j,j<bQ l.length->∃x,l[cE l.length j]? = some x/\(jw l)[j]? = some ⟨x,((cE l.length j:Nat):Int)⟩:=by
 unfold jw bQ cE;by_cases b:l.length=0
 ·rw[qK b,b];exact⟨rfl,fun j i=>by omega⟩
 ·rw[qJ b];obtain⟨n,o⟩:∃n,l.length=n+1:=⟨l.length-1,by omega⟩
  rw[o,Nat.add_sub_cancel];obtain⟨d,g⟩:=Xw l n (by omega);have f:l[n]? = some l[n]:=qD (by omega);have e:gI l.length n=true:=by unfold gI;rw[qW (p:=n+1=l.length) (by omega)];simp
  rw[oB f e,qI,d];refine⟨by simp,fun j i=>?_⟩;rcases Nat.lt_or_ge j ((n+7)/8) with c|c
  ·obtain⟨y,q,r⟩:=g j c;have a:min (8*j) n=8*j:=(by omega);rw[a];exact⟨y,q,by rw[List.getElem?_append_left (by rw[d];exact c)];exact r⟩
  ·obtain rfl:j=(n+7)/8:=(by omega);have a:min (8*((n+7)/8)) n=n:=(by omega);refine⟨l[n],by rw[a];exact f, ?_⟩;rw[List.getElem?_append_right (by omega),d,Nat.sub_self,a];rfl
def gZ(e:zn):List kL->Int->Int->Int × Int
 | [],lo,hi=>(lo,hi)
 | x::m,lo,hi=>if jE x.e e=true then gZ e m (IntKind.i64.wrap (x.k+1)) hi else(lo,x.k)
def bX(lo hi many:Int):Int × Int:=(min (max lo 0) many,min (max hi (min (max lo 0) many)) many)
theorem BF{lo hi many:Int}(h:0<=lo)(a:lo<=hi)(b:hi<=many):bX lo hi many=(lo,hi):=by
 unfold bX;refine Prod.ext ?_ ?_<;>simp only<;>omega
def loM(m:List kL)(c:Nat):Int:=if c=0 then 0 else match m[c-1]? with | some x=>x.k+1 | none=>0
def hiM(m:List kL)(c:Nat)(many:Int):Int:=match m[c]? with | some x=>x.k | none=>many
def oC(e:zn)(m:List kL)(c:Nat):Prop:=c<=m.length/\∀(j:Nat) (x:kL),m[j]? = some x->jE x.e e=decide (j<c)
theorem ZQ{e:zn}{many:Int}:∀ {m:List kL} {c:Nat} {lo:Int},oC e m c->(∀x∈m,IntKind.i64.wrap (x.k+1)=x.k+1) ->
  gZ e m lo many=(if c=0 then lo else loM m c,hiM m c many)
 | [],c,lo,h,_=>by
   obtain rfl:c=0:=(by have:=h.1;simpa using this);rfl
 | x::m,c,lo,h,hw=>by
   have a:=h.2 0 x rfl;cases c with
   | zero =>
     rw[qG (by omega)]at a;rw[gZ,qJ (by rw[a];decide)];rfl
   | succ c =>
     rw[qW (by omega)]at a;have d:oC e m c:=⟨by have:=h.1;simp at this;omega,fun j y b=>by rw[h.2 (j+1) y b];exact decide_eq_decide.2 (by omega)⟩
     rw[gZ,qK a,ZQ d (fun y b=>hw y (qF _ b)),hw x qB];refine Prod.ext ?_ rfl;simp only;unfold loM;rw[qJ (Nat.succ_ne_zero c),Nat.add_sub_cancel];cases c with
     | zero=>rfl
     | succ c =>
       rw[qJ (Nat.succ_ne_zero c),qJ (Nat.succ_ne_zero c),Nat.add_sub_cancel];rfl
section
variable {l:List zn}{e:zn}
theorem BH(e:zn):∀x y,jE x y=true->jE y e=true->jE x e=true:=fun x y h k=>dU h k
def yr(n K:Nat):Nat:=if K=n then bQ n else(K+7)/8
theorem BI(h:jj l):oC e (jw l) (yr l.length (l.countP fun x=>jE x e)):=by
 obtain⟨b,g⟩:=sD l;have i:=di (q:=fun x=>jE x e) (BH e) h;have o:l.countP (fun x=>jE x e)<=l.length:=List.countP_le_length;generalize l.countP (fun x=>jE x e)=K at*;refine⟨?_,fun j x c=>?_⟩
 ·rw[b];unfold yr bQ;split
  ·exact qZ _
  ·rw[qJ (by omega)];omega
 ·have a:j<bQ l.length:=by rw[<-b];exact(qM.1 c).1
  obtain⟨y,n,d⟩:=g j a;rw[c]at d;have f:=qv d;rw[f];show jE y e=_;rw[show jE y e=decide (cE l.length j<K) from i _ y n];refine decide_eq_decide.2 ?_;unfold cE yr;unfold bQ at a ⊢;split at a
  ·omega
  ·split<;>(try split)<;>omega
theorem BM(h:jj l):∃lo hi:Nat,loM (jw l) (yr l.length (l.countP fun x=>jE x e))=(lo:Int)/\hiM (jw l) (yr l.length (l.countP fun x=>jE x e)) (l.length:Nat)=(hi:Int) /\
  lo<=l.countP (fun x=>jE x e)/\l.countP (fun x=>jE x e)<=hi/\hi<=l.length/\hi<=lo+7:=by
 obtain⟨b,c⟩:=sD l;have r:l.countP (fun x=>jE x e)<=l.length:=List.countP_le_length;generalize l.countP (fun x=>jE x e)=K at*
 have o:loM (jw l) (yr l.length K)=((if yr l.length K=0 then 0 else cE l.length (yr l.length K-1)+1:Nat):Int):=by
  unfold loM;split
  ·rfl
  ·rename_i d
   obtain⟨x,_,a⟩:=c (yr l.length K-1) (by
    unfold yr bQ at d ⊢;split at d<;>split<;>split<;>(first | omega | (split at d<;>omega)))
   rw[a];simp
 have i:hiM (jw l) (yr l.length K) (l.length:Nat)=((if yr l.length K<bQ l.length then cE l.length (yr l.length K) else l.length:Nat):Int):=by
  unfold hiM;split
  ·rename_i x a;have j:yr l.length K<bQ l.length:=(by rw[<-b];exact(qM.1 a).1);obtain⟨y,_,p⟩:=c _ j;rw[a]at p;rw[qK j,qv p]
  ·rename_i a;rw[List.getElem?_eq_none_iff,b]at a;rw[qJ (by omega)]
 refine⟨_,_,o,i, ?_⟩;clear o i b c h;unfold cE yr bQ;generalize l.length=n at*;by_cases f:n=0
 ·subst f;obtain rfl:K=0:=by omega
  simp
 ·rw[qJ f];by_cases g:K=n
  ·subst g;rw[qK rfl,qJ (by omega),qJ (by omega)];omega
  ·rw[qJ g];by_cases q:K=0
   ·subst q;simp
    try omega
   ·rw[qJ (by omega),qK (by omega)];omega
theorem BN(n:l.length<=1000000):∀x∈jw l,IntKind.i64.wrap (x.k+1)=x.k+1/\0<=x.k/\x.k<=1000000:=by
 intro x f;obtain⟨j,a⟩:=List.getElem?_of_mem f;obtain⟨c,d⟩:=sD l;obtain⟨y,g,b⟩:=d j (by rw[<-c];exact(qM.1 a).1);rw[a]at b;have i:=(qM.1 g).1;rw[qv b];generalize cE l.length j=k at*;refine⟨IntWalk.i64_in _ ⟨?_, ?_⟩, ?_, ?_⟩<;>simp only<;>omega
end
end
section
open Go.RowKit
theorem za.below{w w':World}{g:Nat}{t:TypeId}{cs:Array Value}(h:za w g t cs)(a:Below w.heap.size w w'):za w' g t cs:=(a.block g h.lt).trans h
abbrev kY(w:World)(g:Nat)(h:Nat)(v p:Int):Prop:=za w g 117 #[.int .u64 (h:Nat),.int .i64 v,.int .i64 p]
theorem kY.z6{w:World}{g h:Nat}{v p:Int}(H:kY w g h v p)(a:Nat):kY (w.setCell ⟨g,0,none⟩ (.int .u64 (a:Nat))) g a v p:=za.put H 0 _
theorem kY.zq{w:World}{g h:Nat}{v p:Int}(H:kY w g h v p)(v':Int):kY (w.setCell ⟨g,1,none⟩ (.int .i64 v')) g h v' p:=za.put H 1 _
theorem kY.zu{w:World}{g h:Nat}{v p:Int}(H:kY w g h v p)(a:Int):kY (w.setCell ⟨g,2,none⟩ (.int .i64 a)) g h v a:=za.put H 2 _
theorem kY.facts{w:World}{g h:Nat}{v p:Int}(H:kY w g h v p):w.cell? ⟨g,0,none⟩=some (.int .u64 (h:Nat))/\w.cell? ⟨g,1,none⟩=some (.int .i64 v)/\w.cell? ⟨g,2,none⟩=some (.int .i64 p)/\w.frozen? ⟨g,0,none⟩=false/\w.frozen? ⟨g,1,none⟩=false/\w.frozen? ⟨g,2,none⟩=false :=
 ⟨za.cell H 0,za.cell H 1,za.cell H 2,za.frozen H 0,za.frozen H 1,za.frozen H 2⟩
theorem dW{w w2:World}{g:Nat}(h:Below w.heap.size w w2)(d:w.heap.size<=g)(a b c:Value):
  Below w.heap.size w (((w2.setCell ⟨g,0,none⟩ a).setCell ⟨g,1,none⟩ b).setCell ⟨g,2,none⟩ c):=((h.setCell d _).setCell d _).setCell d _
theorem ZX(n:Nat)(h:n<18446744073709551616):(0<=IntKind.i64.wrap (n:Int)↔n<9223372036854775808)/\(n<9223372036854775808->IntKind.i64.wrap (n:Int)=n):=by
 rw[IntKind.wrap_i64];constructor
 ·omega
 ·intro;omega
theorem BR{s:Tw}(d:s.size=24):mayE ⟨jJ (s.extract 0 8),IntKind.i64.wrap (enV s:Nat),IntKind.i64.wrap (enP s:Nat)⟩=vc s/\(vc s=true->enG s=⟨jJ (s.extract 0 8),IntKind.i64.wrap (enV s:Nat),IntKind.i64.wrap (enP s:Nat)⟩):=by
 have a:=ZX (enV s) (mX _);have b:=ZX (enP s) (mX _);constructor
 ·unfold mayE vc;rw[decide_eq_decide];simp only;rw[a.1,b.1];exact⟨fun h=>⟨d,h⟩,fun h=>h.2⟩
 ·intro h;have c:=of_decide_eq_true h;unfold enG;rw[qK h,a.2 c.2.1,b.2 c.2.2]
theorem BS(s:Tw)(w:World)(f:s.size<=maxLen)(r:s.size≠24):
  Calls prog 224 #[.string s] w fun e w'=>e = .returned (.tuple #[ji ⟨0,0,0⟩,.bool false])/\Below w.heap.size w w':=by
 unfold maxLen at f;have t:((s.size:Int) != 24)=true:=by simp;omega
 have a:kY (w.alloc (.cells #[.int .u64 ((0:Nat):Int),.int .i64 0,.int .i64 0] 117)) w.heap.size 0 0 0:=za.new _ _ _;have d:=(Below.refl w.heap.size w).alloc (qZ _) (.cells #[.int .u64 ((0:Nat):Int),.int .i64 0,.int .i64 0] 117);obtain⟨c,b⟩:∃c,w.alloc (.cells #[.int .u64 ((0:Nat):Int),.int .i64 0,.int .i64 0] 117)=c:=⟨_,rfl⟩
 rw[b]at a d;have q:w.alloc (.cells #[.int .u64 0,.int .i64 0,.int .i64 0] 117)=c:=b;clear b;obtain⟨g,i,j,n,o,p⟩:=a.facts;clear a;go_enter func224,ntmps224;go_wp2;exact bodyPost_ret (v:=.tuple #[ji ⟨0,0,0⟩,.bool false]) (by simp[results,Tryz.results224,go_sem,g,i,j]) rfl ⟨rfl,dW d (qZ _) _ _ _⟩
theorem BT(s:Tw)(w:World)(O:s.size=24):
  Calls prog 224 #[.string s] w fun e w'=>e = .returned (.tuple #[ji (enG s),.bool (vc s)])/\Below w.heap.size w w':=by
 have I:=qQ fun W=>gQ (s.extract 0 8) W (by unfold maxLen;rw[qS];omega)
 have J:=qQ fun W=>gQ (s.extract 8 16) W (by unfold maxLen;rw[qS];omega)
 have K:=qQ fun W=>gQ (s.extract 16 24) W (by unfold maxLen;rw[qS];omega)
 obtain⟨G,q⟩:=BR O;have g:=fun W=>sG ⟨jJ (s.extract 0 8),IntKind.i64.wrap (enV s:Nat),IntKind.i64.wrap (enP s:Nat)⟩ W
 rw[G]at g;have i:=qQ g;have C:=Xg (s:=s);unfold enV enP at*;clear g G;generalize jJ (s.extract 0 8)=h at*;generalize jJ (s.extract 8 16)=Q at*;generalize jJ (s.extract 16 24)=P at*;obtain⟨v,M⟩:∃v,IntKind.i64.wrap (Q:Int)=v:=⟨_,rfl⟩
 obtain⟨p,L⟩:∃p,IntKind.i64.wrap (P:Int)=p:=⟨_,rfl⟩
 rw[M,L]at i q;have t:((s.size:Int) != 24)=false:=by simp;omega
 have a:kY (w.alloc (.cells #[.int .u64 ((0:Nat):Int),.int .i64 0,.int .i64 0] 117)) w.heap.size 0 0 0:=za.new _ _ _;have j:=(Below.refl w.heap.size w).alloc (qZ _) (.cells #[.int .u64 ((0:Nat):Int),.int .i64 0,.int .i64 0] 117);obtain⟨r,o⟩:∃r,w.alloc (.cells #[.int .u64 ((0:Nat):Int),.int .i64 0,.int .i64 0] 117)=r:=⟨_,rfl⟩
 rw[o]at a j;have N:w.alloc (.cells #[.int .u64 0,.int .i64 0,.int .i64 0] 117)=r:=o;clear o;have u:=qQ (a.z6 h);obtain⟨c,d,f,z,A,B⟩:=a.facts;clear a;cases b:vc s
 all_goals
  rw[b]at i
  first | rw[C b] | rw[q b]
  clear C q b;go_enter func224,ntmps224;go_wp2_with fail;refine(I.out _).mono ?_;rintro e w'⟨rfl,rfl⟩;go_wp2_with fail;refine(J.out _).mono ?_;rintro e w'⟨rfl,rfl⟩;go_wp2_with fail;refine(K.out _).mono ?_;rintro e w'⟨rfl,rfl⟩;have y:=qQ ((u.out.zq v).zu p);have D:=dW j (qZ _) (.int .u64 (h:Nat)) (.int .i64 v) (.int .i64 p);clear u;go_wp2_with fail;refine(i.out _).mono ?_;rintro e R⟨rfl,n⟩;have F:=bj D n;have H:kY R w.heap.size h v p:=za.below y.out n;clear c d f z A B n D y j N;obtain⟨c,d,f,z,A,B⟩:=H.facts;go_wp2
  first
  | exact bodyPost_ret (v:=.tuple #[ji ⟨0,0,0⟩,.bool false]) (by simp[results,Tryz.results224,go_sem,c,d,f]) rfl ⟨rfl,dW F (qZ _) _ _ _⟩
  | exact bodyPost_ret (v:=.tuple #[ji ⟨h,v,p⟩,.bool true]) (by simp[results,Tryz.results224,go_sem,c,d,f]) rfl ⟨rfl,dW F (qZ _) _ _ _⟩
theorem ZZ(s:Tw)(w:World)(b:s.size<=maxLen):
  Calls prog 224 #[.string s] w fun e w'=>e = .returned (.tuple #[ji (enG s),.bool (vc s)])/\Below w.heap.size w w':=by
 by_cases a:s.size=24
 ·exact BT s w a
 ·have h:=Gm a;rw[Xg h,h];exact BS s w b a
end
section
open Go.RowKit Go.Shelf
theorem B7: Enters prog 256:=enters_of func256 (by kernel_rfl) rfl
theorem B8: Enters prog 257:=enters_of func257 (by kernel_rfl) rfl
theorem B9(x y:zn)(g:Nat)(W:World)(b:kY W g y.h y.v y.p):
  Calls prog 256 #[ji x,.pointer (some ⟨g,0,none⟩)] W fun e d=>e = .returned (.bool (jE x y))/\Below W.heap.size W d:=by
 have c:=qQ fun W=>fo x y W
 have a:kY (W.alloc (.cells #[.int .u64 (x.h:Nat),.int .i64 x.v,.int .i64 x.p] 117)) g y.h y.v y.p:=za.alloc b _;obtain⟨n,o,q,-,-,-⟩:=a.facts;have f:=(Below.refl W.heap.size W).alloc (qZ _) (.cells #[.int .u64 (x.h:Nat),.int .i64 x.v,.int .i64 x.p] 117);clear b a;obtain⟨h,v,p⟩:=x;obtain⟨j,v',r⟩:=y;go_enter func256,ntmps256;go_wp2_with fail;refine(c.out _).mono ?_;rintro e s⟨rfl,i⟩;go_wp2;go_ret;exact⟨rfl,bj f i⟩
theorem Bz(x y:zn)(g:Nat)(W:World)(b:kY W g y.h y.v y.p):
  Calls prog 257 #[ji x,.pointer (some ⟨g,0,none⟩)] W fun e d=>e = .returned (.bool (!jE y x))/\Below W.heap.size W d:=by
 have c:=qQ fun W=>fo y x W
 have a:kY (W.alloc (.cells #[.int .u64 (x.h:Nat),.int .i64 x.v,.int .i64 x.p] 117)) g y.h y.v y.p:=za.alloc b _;obtain⟨n,o,q,-,-,-⟩:=a.facts;have f:=(Below.refl W.heap.size W).alloc (qZ _) (.cells #[.int .u64 (x.h:Nat),.int .i64 x.v,.int .i64 x.p] 117);clear b a;obtain⟨h,v,p⟩:=x;obtain⟨j,v',r⟩:=y;go_enter func257,ntmps257;go_wp2_with fail;refine(c.out _).mono ?_;rintro e s⟨rfl,i⟩;go_wp2;go_ret;exact⟨rfl,bj f i⟩
def cF(l:List zn)(h:Nat)(v:Int):Nat:=l.countP (va h v)
theorem ZJ{l:List zn}(a:jj l)(h:Nat)(v:Int):vm (yn h v) l (dt l h v):=di (Xl h v) a
theorem sE{l:List zn}(a:jj l)(h:Nat)(v:Int):vm (va h v) l (cF l h v):=di (sX h v) a
theorem mq(q:zn->Bool)(l:List zn):l.countP q<=l.length:=List.countP_le_length
theorem Bj{x:zn}{h:Nat}{v:Int}(a:vP x):jE x ⟨h,v,-9223372036854775808⟩=yn h v x:=by
 unfold jE yn;rw[decide_eq_decide];have:=a.p0;simp only;omega
theorem Bk{x:zn}{h:Nat}{v:Int}(a:vP x):(!jE ⟨h,v,9223372036854775807⟩ x)=va h v x:=by
 unfold jE va;rw[<-decide_not,decide_eq_decide];have:=a.p1;simp only;omega
theorem Bv(v:Value)(l:List zn)(h:Nat)(n:Int)(w:World)(j:jb w v l)(p:l.length<=1000000)(q:∀x∈l,vP x)(r:jj l):
  Calls prog 218 #[v,.int .u64 (h:Nat),.int .i64 n] w fun e w'=>e = .returned (.int .i64 (dt l h n:Nat))/\Below w.heap.size w w':=by
 have b:kY (w.alloc (.cells #[.int .u64 (h:Nat),.int .i64 n,.int .i64 (-9223372036854775808)] 117)) w.heap.size h n (-9223372036854775808):=za.new _ _ _;have a:=(Below.refl w.heap.size w).alloc (qZ _) (.cells #[.int .u64 (h:Nat),.int .i64 n,.int .i64 (-9223372036854775808)] 117);have o:=j.below a (qZ _);have D:∀(d:Fn) (first c:Array Value) (w:World),(Instr.makeFunc d first c).run prog w = .ok (.func d first c) w:=fun _ _ _ _=>rfl
 have g:Enters prog 256:=B7
 have hcut:vm (fun x=>jE x ⟨h,n,-9223372036854775808⟩) l (dt l h n):=fun i x s=>by
  have:=ZJ r h n i x s;rw[<-this];exact Bj (q x (qO s))
 have B:dt l h n<=l.length:=mq _ l;generalize dt l h n=K at*;have y:=qQ (Xr 256 w.heap.size (fun x=>jE x ⟨h,n,-9223372036854775808⟩) v l _ o p g (fun x W z=>B9 x ⟨h,n,-9223372036854775808⟩ w.heap.size W (za.below b z)));have u:=qQ hcut;have t:=qQ a;clear j p q r b o hcut a g;go_enter func218,ntmps218;go_wp2_with fail;refine y.out.mono ?_;rintro e F⟨k,C,rfl,f,A⟩;obtain rfl:=f K B u.out;clear f;go_wp2;go_ret;exact⟨rfl,bj t.out A⟩
theorem ZK(v:Value)(l:List zn)(h:Nat)(n:Int)(w:World)(j:jb w v l)(p:l.length<=1000000)(q:∀x∈l,vP x)(r:jj l):
  Calls prog 219 #[v,.int .u64 (h:Nat),.int .i64 n] w fun e w'=>e = .returned (.int .i64 (cF l h n:Nat))/\Below w.heap.size w w':=by
 have b:kY (w.alloc (.cells #[.int .u64 (h:Nat),.int .i64 n,.int .i64 9223372036854775807] 117)) w.heap.size h n 9223372036854775807:=za.new _ _ _;have a:=(Below.refl w.heap.size w).alloc (qZ _) (.cells #[.int .u64 (h:Nat),.int .i64 n,.int .i64 9223372036854775807] 117);have o:=j.below a (qZ _);have D:∀(d:Fn) (first c:Array Value) (w:World),(Instr.makeFunc d first c).run prog w = .ok (.func d first c) w:=fun _ _ _ _=>rfl
 have g:Enters prog 257:=B8
 have hcut:vm (fun x=>!jE ⟨h,n,9223372036854775807⟩ x) l (cF l h n):=fun i x s=>by
  have:=sE r h n i x s;rw[<-this];exact Bk (q x (qO s))
 have B:cF l h n<=l.length:=mq _ l;generalize cF l h n=K at*;have y:=qQ (Xr 257 w.heap.size (fun x=>!jE ⟨h,n,9223372036854775807⟩ x) v l _ o p g (fun x W z=>Bz x ⟨h,n,9223372036854775807⟩ w.heap.size W (za.below b z)));have u:=qQ hcut;have t:=qQ a;clear j p q r b o hcut a g;go_enter func219,ntmps219;go_wp2_with fail;refine y.out.mono ?_;rintro e F⟨k,C,rfl,f,A⟩;obtain rfl:=f K B u.out;clear f;go_wp2;go_ret;exact⟨rfl,bj t.out A⟩
theorem ZV(A:Option Addr)(n c:Nat)(w:World):(binOp .eql 112 (.slice A n c) (.slice none 0 0)).run prog w = .ok (.bool A.isNone) w:=by
 have a:=run_equal_slice_nil (P:=prog) w 112 117 A n c Tryz.underlying112;simp only[binOp];simp[a]
def fZ(w:World)(l:List zn)(e:Ending)(w':World):Prop:=∃A c,e = .returned (.slice A l.length c)/\jC w' w.heap.size (.slice A l.length c) l/\Below w.heap.size w w'
theorem By(v:Value)(l:List zn)(w:World)(h:jb w v l)(r:l.length<=500000):Calls prog 113 #[v] w (fZ w l):=by
 obtain⟨A,off,n,rfl,-,-⟩:=h.form;cases A with
 | none =>
   have G:l=[]:=by
    rcases h with⟨e,_⟩|⟨b,J,I,e,_⟩
    ·exact e
    ·cases e
   subst G;have H:=fun W=>ZV none 0 n W
   clear h r;go_enter func113,ntmps113;go_wp2;go_ret;exact⟨none,0,rfl,jC.nil _ _,Below.refl _ _⟩
 | some a =>
   have f:=(Below.refl w.heap.size w).alloc (qZ _) (.cells #[] 117);have s:jC (w.alloc (.cells #[] 117)) w.heap.size (.slice (some ⟨w.heap.size,0,none⟩) 0 0) []:=World.ownsRow_made w #[] 0 (qZ _) (qH _) rfl;have p:=h.below f (qZ _);obtain⟨u,C,K,c,d,o,D⟩:=mS s p (by simp;omega) (by simp) 112;have q:=f.trans (mT o (B:=w.heap.size) (by simp) (fun k F=>by simp[Value.ownBlock]at F;omega));have z:=qQ q;rw[List.nil_append]at d;have t:([]:List zn).length+l.length=l.length:=(by simp);rw[t]at c d;have i:=qQ d;clear h r f s p d o D q t;obtain⟨m,g⟩:∃m,m=l.length:=⟨_,rfl⟩
   have j:=qQ g;rw[<-g]at c i ⊢;clear g;have y:=qQ c;have H:=fun W=>ZV (some a) m n W
   clear c;go_enter func113,ntmps113;go_wp2_with (first | (at_builtin;refine yc rfl _ _ rfl rfl rfl y.out ?_) | fail);go_ret;exact⟨u,C,by rw[<-j.out];rfl,by rw[<-j.out];exact i.out,z.out⟩
theorem sF{w:World}{A:Option Addr}{n c i:Nat}{l:List zn}{x:zn}(h:jb w (.slice A n c) l)(g:l[i]? = some x):∃b off,A=some ⟨b,off,none⟩/\n=l.length/\b<w.heap.size/\w.cell? ⟨b,off+i*3,none⟩=some (.int .u64 (x.h:Nat))/\w.cell? ⟨b,off+i*3+1,none⟩=some (.int .i64 x.v)/\w.cell? ⟨b,off+i*3+2,none⟩=some (.int .i64 x.p):=by
 obtain⟨j,off,o,e,_,f⟩:=h.form;obtain⟨rfl,rfl,rfl⟩:=Value.slice.inj e;obtain⟨b,a,d⟩:=f i x g;exact⟨b,off,a,rfl,d⟩
theorem ZY(v:Value)(l:List zn)(h:Nat)(a b:Int)(w:World)(c:jb w v l)(hn:l.length<=500000)(u:∀x∈l,vP x)(f:jj l):
  Calls prog 165 #[v,.int .u64 (h:Nat),.int .i64 a,.int .i64 b] w (fZ w (kZ l h a b)):=by
 have y:=qQ (Bv v l h a w c (by omega) u f);have z:=qQ fun W o=>ZK v l h b W (c.below o (qZ _)) (by omega) u f
 have s:=Gs (ZJ f h a) (sE f h b);have l1:dt l h a<=l.length:=mq _ l;have T:cF l h b<=l.length:=mq _ l;have K:=qQ s;rw[s];generalize dt l h a=i at*;generalize cF l h b=j at*;obtain⟨A,off,D,rfl,-,-⟩:=c.form;clear s u f;by_cases R:i<j
 ·obtain⟨Y,c',hs,H⟩:=BG c (Nat.le_of_lt R) T;have G:((l.drop i).take (j-i)).length=j-i:=by rw[qq,List.length_drop];omega
  have J:=qQ fun B W O o=>By _ _ W (H B W O o) (by rw[G];omega)
  have t:decide ((j:Int)<=(i:Int))=false:=qG (by omega);clear H c G;generalize l.length=n at*;generalize (l.drop i).take (j-i)=L at*;go_enter func165,ntmps165;go_wp2_with fail;refine y.out.mono ?_;rintro e U⟨rfl,d⟩;go_wp2_with fail;refine(z.out _ d).mono ?_;rintro e X⟨rfl,q⟩;have p:=bj d q;go_wp2_with fail;refine(J.out _ _ (qZ _) p).mono ?_;rintro e w3⟨Z,c3,rfl,I,P⟩;have C:=qQ I;clear I;go_wp2;go_ret
  exact⟨_,_,rfl,⟨C.out.1,by
   rcases C.out.2 with N|⟨g,D,M,S,Q,r⟩
   ·exact qX N
   ·exact qY ⟨g,D,M,S,qR p.size Q,r⟩⟩,bj p P⟩
 ·have F:(l.drop i).take (j-i)=[]:=by rw[show j-i=0 by omega,List.take_zero]
  rw[F];have t:decide ((j:Int)<=(i:Int))=true:=qW (by omega);clear c K F;generalize l.length=n at*;go_enter func165,ntmps165;go_wp2_with fail;refine y.out.mono ?_;rintro e U⟨rfl,d⟩;go_wp2_with fail;refine(z.out _ d).mono ?_;rintro e X⟨rfl,q⟩;go_wp2;go_ret;exact⟨none,0,rfl,jC.nil _ _,bj d q⟩
end
section
open Go.RowKit
theorem hQ{a W:World}{p:Addr}{v:Value}(h:Below a.heap.size a W)(c:p.block<a.heap.size)(b:a.cell? p=some v):W.cell? p=some v:=(h.cell c).trans b
theorem sH{f:Nat}{w1:World}{b h v p n:Nat}(i:n<18446744073709551616)(g:∀W,Calls prog f #[.int .u64 (n:Nat),.int .i64 8] W fun e w'=>e = .returned (.string (bs (be 8 n)))/\Below W.heap.size W w')(W:World)
  (a:Below w1.heap.size w1 W/\W.cell? ⟨b,0,none⟩=some (.int .u64 (h:Nat))/\W.cell? ⟨b,1,none⟩=some (.int .i64 (v:Nat))/\W.cell? ⟨b,2,none⟩=some (.int .i64 (p:Nat))):
  Calls prog f #[.int .u64 (n:Nat),.int .i64 8] W fun e w'=>e = .returned (.string (bs (be 8 n)))/\Below w1.heap.size w1 w':=(g W).mono fun e w' ⟨d,c⟩=>⟨d,bj a.1 c⟩
theorem Bu(x:zn)(w:World)(b:mayE x=false):
  Calls prog 149 #[ji x] w fun e w'=>e = .returned (.string (ym x))/\Below w.heap.size w w':=by
 have a:=fun W=>sG x W
 rw[b]at a;rw[Xu b];have c:=qQ a;obtain⟨h,v,p⟩:=x;clear a b;go_enter func149,ntmps149;go_wp2_with fail;refine(c.out _).mono ?_;rintro e f⟨rfl,d⟩;go_wp2;go_ret;exact⟨rfl,((Below.refl _ _).alloc (qZ _) _).trans (d.mono (by simp))⟩
theorem Bg(h v p:Nat)(w:World)(u:h<18446744073709551616)(F:v<9223372036854775808)(D:p<9223372036854775808):
  Calls prog 149 #[ji ⟨h,(v:Nat),(p:Nat)⟩] w fun e w'=>e = .returned (.string (ym ⟨h,(v:Nat),(p:Nat)⟩))/\Below w.heap.size w w':=by
 have g:mayE ⟨h,(v:Nat),(p:Nat)⟩=true:=qW ⟨by show(0:Int)<=(v:Int);omega,by show(0:Int)<=(p:Int);omega⟩;have f:=fun W=>sG ⟨h,(v:Nat),(p:Nat)⟩ W
 rw[g]at f;have i:=qQ f;have j:=qQ fun W=>uL h 8 W (by omega) (by omega) u
 have o:=qQ fun W=>uL v 8 W (by omega) (by omega) (by omega)
 have q:=qQ fun W=>uL p 8 W (by omega) (by omega) (by omega)
 have d:=qQ (qU u (qU F D));have y:(bs (be 8 h)).size=8:=by rw[jh,jO]
 have z:(bs (be 8 v)).size=8:=by rw[jh,jO]
 have K:(bs (be 8 p)).size=8:=by rw[jh,jO]
 have e:ym ⟨h,(v:Nat),(p:Nat)⟩=bs (be 8 h)++bs (be 8 v)++bs (be 8 p):=by
  unfold ym;rw[qK g,gu,gu];unfold fp;rw[qd];rfl
 have R:∀w:World,(Op.stringOp .add (bs (be 8 h)) (bs (be 8 v))).run prog w = .ok (.string (bs (be 8 h)++bs (be 8 v))) w:=fun w=>run_string_add_sum (P:=prog) (w:=w) _ _ (by omega)
 have L:(bs (be 8 h)++bs (be 8 v)).size=16:=by rw[qT,y,z]
 have S:∀w:World,(Op.stringOp .add (bs (be 8 h)++bs (be 8 v)) (bs (be 8 p))).run prog w = .ok (.string (ym ⟨h,(v:Nat),(p:Nat)⟩)) w:=fun w=>by rw[e];exact run_string_add_sum (P:=prog) (w:=w) _ _ (by omega)
 generalize ym ⟨h,(v:Nat),(p:Nat)⟩=X at*;clear e f g;go_enter func149,ntmps149;go_wp2_with fail;refine(i.out _).mono ?_;rintro e w1⟨rfl,a⟩;have G:=a.size;rw[World.size_alloc]at G;have H:w1.cell? ⟨w.heap.size,0,none⟩=some (.int .u64 (h:Nat)):=hQ a (by simp) (World.cell?_alloc_at _ _ _ _ rfl);have I:w1.cell? ⟨w.heap.size,1,none⟩=some (.int .i64 (v:Nat)):=hQ a (by simp) (World.cell?_alloc_at _ _ _ _ rfl);have J:w1.cell? ⟨w.heap.size,2,none⟩=some (.int .i64 (p:Nat)):=hQ a (by simp) (World.cell?_alloc_at _ _ _ _ rfl);have t:Below w.heap.size w w1:=((Below.refl _ _).alloc (qZ _) _).trans (a.mono (by simp))
 have r:Hid (∀W,Below w1.heap.size w1 W->Below w1.heap.size w1 W/\W.cell? ⟨w.heap.size,0,none⟩=some (.int .u64 (h:Nat))/\W.cell? ⟨w.heap.size,1,none⟩=some (.int .i64 (v:Nat))/\W.cell? ⟨w.heap.size,2,none⟩=some (.int .i64 (p:Nat))) :=
  qQ fun W c=>⟨c,hQ c (show w.heap.size<_ by omega) H,hQ c (show w.heap.size<_ by omega) I,hQ c (show w.heap.size<_ by omega) J⟩
 have A:=qQ (sH (w1:=w1) (b:=w.heap.size) (h:=h) (v:=v) (p:=p) d.out.1 j.out);have B:=qQ (sH (w1:=w1) (b:=w.heap.size) (h:=h) (v:=v) (p:=p) (n:=v) (by have:=d.out;omega) o.out);have C:=qQ (sH (w1:=w1) (b:=w.heap.size) (h:=h) (v:=v) (p:=p) (n:=p) (by have:=d.out;omega) q.out);generalize bs (be 8 h)++bs (be 8 v)=N at*;generalize bs (be 8 h)=M at*;generalize bs (be 8 v)=O at*;generalize bs (be 8 p)=Q at*;have T:IntKind.u64.wrap ((v:Nat):Int)=(v:Nat):=IntWalk.u64_in _ ⟨by omega,by omega⟩;have U:IntKind.u64.wrap ((p:Nat):Int)=(p:Nat):=IntWalk.u64_in _ ⟨by omega,by omega⟩;clear a j o q i y z K L;go_wp2_with fail
 go_region_held3 (fun W=>Below w1.heap.size w1 W/\W.cell? ⟨w.heap.size,0,none⟩=some (.int .u64 (h:Nat))/\W.cell? ⟨w.heap.size,1,none⟩=some (.int .i64 (v:Nat))/\W.cell? ⟨w.heap.size,2,none⟩=some (.int .i64 (p:Nat)))
  (first | assumption | exact r.out _ (by assumption) | exact r.out _ (Below.refl _ _).drew | fail) (first
  | (go_at_call 142;((with_reducible refine(A.out _ (by assumption)).mono ?_);rintro e w'⟨rfl,s⟩))
  | (go_at_call 142;((with_reducible refine(B.out _ (by assumption)).mono ?_);rintro e w'⟨rfl,s⟩))
  | (go_at_call 142;((with_reducible refine(C.out _ (by assumption)).mono ?_);rintro e w'⟨rfl,s⟩))
  | fail)
 all_goals
  go_wp2;go_ret;exact⟨rfl,t.trans ((And.left (‹Below w1.heap.size w1 _/\_›)).mono t.size)⟩
theorem Bb{x:zn}(b:vP x)(a:mayE x=true):∃v p:Nat,x=⟨x.h,(v:Nat),(p:Nat)⟩/\v<9223372036854775808/\p<9223372036854775808:=by
 have h:=of_decide_eq_true a;obtain⟨c,d,f,g,i⟩:=b;exact⟨x.v.toNat,x.p.toNat,mO rfl (by show x.v=((x.v.toNat:Nat):Int);omega) (by show x.p=((x.p.toNat:Nat):Int);omega),by omega,by omega⟩
theorem Bc(x:zn)(w:World)(b:vP x):
  Calls prog 149 #[ji x] w fun e w'=>e = .returned (.string (ym x))/\Below w.heap.size w w':=by
 cases a:mayE x with
 | false=>exact Bu x w a
 | true =>
   obtain⟨v,p,e,d,c⟩:=Bb b a;rw[e];exact Bg x.h v p w b.h d c
end
section
open Go.RowKit Go.Shelf
theorem Bd{z:Array Oper}{o:Oper}{a:Act}{w:World}{K:Act->World->Prop}{Q:Exit->Act->World->Prop}{E:Prop}{vs b:Value}{base:Nat}{l m:List zn}(n:o.guard=none)(s x:Operand)
  (q:o.op = .call { callee:=.builtin .append,args:=#[s,x],argTypes:=#[112,112] }) (t:a.eval s=vs) (y:a.eval x=b)
  (r:jC w base vs l) (u:jb w b m) (p:l.length+m.length<=1000000) (j:base<=w.heap.size)
  (h:∀v' w',jC w' base v' (l++m)->w.grownBy w' vs.ownBlock->(v'.ownBlock=vs.ownBlock∨v'.ownBlock=some w.heap.size)->K (a.put o.dst v') w'):
  if Region.wanted o (yielded z a.tmps)=true then Oper.wp prog o a w K Q else E:=by
 obtain⟨A,c,w',d,f,g,i⟩:=mS r u p j o.type;exact Q6 n s x _ q t y d (h _ w' f g i)
theorem jC.shape{w:World}{base:Nat}{v:Value}{l:List zn}(h:jC w base v l):∃A c,v = .slice A l.length c/\jC w base (.slice A l.length c) l:=by
 obtain⟨A,c,rfl,-,-,-⟩:=v8 h;exact⟨A,c,rfl,h⟩
section
variable {wc W V:World}{vs v':Value}{base:Nat}
theorem oE(h:Below wc.heap.size wc W)(o:Obj):Below wc.heap.size wc (W.alloc o):=h.alloc h.size o
theorem ZU(h:Below wc.heap.size wc W)(b:W.grownBy V vs.ownBlock)(a:∀k,vs.ownBlock=some k->wc.heap.size<=k):Below wc.heap.size wc V:=h.trans (mT b h.size a)
theorem ZG: ∀k,(Value.slice none 0 0).ownBlock=some k->wc.heap.size<=k:=fun k h=>by cases h
theorem ZW(h:Below wc.heap.size wc W)(c:∀k,vs.ownBlock=some k->wc.heap.size<=k)(b:v'.ownBlock=vs.ownBlock∨v'.ownBlock=some W.heap.size):∀k,v'.ownBlock=some k->wc.heap.size<=k:=by
 intro k a;rcases b with e|e
 ·exact c k (e.symm.trans a)
 ·rw[e]at a;injection a with a;rw[<-a];exact h.size
end
end
section
open Go.RowKit Go.Shelf
def Two(W:World)(b p q:Nat)(x y:zn):Prop:=W.cell? ⟨b,p,none⟩=some (.int .u64 (x.h:Nat))/\W.cell? ⟨b,p+1,none⟩=some (.int .i64 x.v)/\W.cell? ⟨b,p+2,none⟩=some (.int .i64 x.p) /\
 W.cell? ⟨b,q,none⟩=some (.int .u64 (y.h:Nat))/\W.cell? ⟨b,q+1,none⟩=some (.int .i64 y.v)/\W.cell? ⟨b,q+2,none⟩=some (.int .i64 y.p)
theorem Bh(v:Value)(l:List zn)(w:World)(S:jb w v l)(hn:l.length<=1000000):
  Calls prog 225 #[v] w fun e w'=>e = .returned (.bool (uU l))/\Below w.heap.size w w':=by
 obtain⟨A,off,ac,rfl,-,R⟩:=S.form;have F:=qQ R;have Y:=qQ (Xb (l:=l));have X:=qQ (fun(i:Nat) (x y:zn) h1 h2 h3=>Gn (l:=l) (i:=i) (x:=x) (y:=y) h1 h2 h3);obtain⟨n,B⟩:∃n,n=l.length:=⟨_,rfl⟩
 have u:=qQ B;rw[<-B]at hn ⊢;clear S R B;generalize uU l=r at*;go_enter func225,ntmps225;go_wp2;go_loopw [6] (fun i wr=>∃k:Nat,k<=n/\i = .int .i64 k/\(∀(i:Nat) (x y:zn),i+1<k->l[i]? = some x->l[i+1]? = some y->jE x y=true)/\Below w.heap.size w wr) (fun i _=>n-(intOf i).toNat)
 case atStart=>exact⟨0,qH _,rfl,fun i x y h=>absurd h (by omega),Below.refl _ _⟩
 case round =>
  obtain⟨k,hk,rfl,Q,a⟩:=hrel;have D:=qQ Q;clear Q;by_cases ad:k<n
  ·have s1:(k:Int)<(n:Int):=(by omega);by_cases O:k=0
   ·subst O;go_wp2
    first
    | (go_roundw
       case rel=>exact⟨1,by omega,by go_num,fun i x y h=>absurd h (by omega),a⟩
       case measure=>simp[intOf];omega)
    | (go_quiet (fail)
       go_wp2;refine⟨⟨1,by omega,by go_num,fun i x y h=>absurd h (by omega),yg a _⟩,by simp[intOf];omega⟩)
   ·obtain⟨m,z⟩:∃m,k=m+1:=⟨k-1,by omega⟩
    obtain⟨x,g⟩:∃x,l[m]? = some x:=⟨_,qD (by rw[<-u.out];omega)⟩
    obtain⟨y,f⟩:∃y,l[k]? = some y:=⟨_,qD (by rw[<-u.out];omega)⟩
    obtain⟨b,rfl,d,H,I,J⟩:=F.out m x g;obtain⟨Z,K,-,L,M,N⟩:=F.out k y f;obtain rfl:b=Z:=(by simpa using K);have q1:(k:Int)-1=(m:Int):=(by omega);have q2:decide ((0:Int)<(k:Int))=true:=qW (by omega);have q5:decide (0<k)=true:=qW (by omega);have q6:(0:Int)<(k:Int):=(by omega);have q7:0<k:=(by omega);have q3:IntKind.i64.wrap ((m:Nat):Int)=(m:Nat):=IntWalk.i64_in _ ⟨by omega,by omega⟩;have q4:(m:Int)<(n:Int):=(by omega);have s:=qQ (show l[m]? = some x/\l[m+1]? = some y from⟨g,by rw[<-z];exact f⟩)
    have q:Hid (∀W,Below wr.heap.size wr W->Below wr.heap.size wr W/\Two W b (off+m*3) (off+k*3) x y):=qQ fun W j =>
     ⟨j,(j.cell (p:=⟨b,off+m*3,none⟩) (qP d a.size)).trans ((a.cell (p:=⟨b,off+m*3,none⟩) d).trans H),(j.cell (p:=⟨b,off+m*3+1,none⟩) (qP d a.size)).trans ((a.cell (p:=⟨b,off+m*3+1,none⟩) d).trans I),(j.cell (p:=⟨b,off+m*3+2,none⟩) (qP d a.size)).trans ((a.cell (p:=⟨b,off+m*3+2,none⟩) d).trans J),
      (j.cell (p:=⟨b,off+k*3,none⟩) (qP d a.size)).trans ((a.cell (p:=⟨b,off+k*3,none⟩) d).trans L),(j.cell (p:=⟨b,off+k*3+1,none⟩) (qP d a.size)).trans ((a.cell (p:=⟨b,off+k*3+1,none⟩) d).trans M),(j.cell (p:=⟨b,off+k*3+2,none⟩) (qP d a.size)).trans ((a.cell (p:=⟨b,off+k*3+2,none⟩) d).trans N)⟩
    have t:=fun W=>fo x y W
    have C:=q.out wr (Below.refl _ _);clear g f H I J L M N K d O;have T:=qQ z;clear z;have HK:=qQ hk;cases o:jE x y
    all_goals
     rw[o]at t;have U:=qQ t;have G:=qQ o;clear t o;obtain⟨xh,xv,xp⟩:=x;obtain⟨yh,yv,yp⟩:=y;unfold Two at q C;simp only at q C;obtain⟨-,c0,c1,c2,c3,c4,c5⟩:=C;go_wp2_with fail
     go_region_held3 (fun W=>Below wr.heap.size wr W/\W.cell? ⟨b,off+m*3,none⟩=some (.int .u64 (xh:Nat))/\W.cell? ⟨b,off+m*3+1,none⟩=some (.int .i64 xv)/\W.cell? ⟨b,off+m*3+2,none⟩=some (.int .i64 xp) /\
      W.cell? ⟨b,off+k*3,none⟩=some (.int .u64 (yh:Nat))/\W.cell? ⟨b,off+k*3+1,none⟩=some (.int .i64 yv)/\W.cell? ⟨b,off+k*3+2,none⟩=some (.int .i64 yp))
      (first | (with_reducible assumption) | ((with_reducible refine q.out _ ?_);(first | (with_reducible assumption) | (with_reducible exact Below.refl _ _) | (with_reducible exact(Below.refl _ _).drew) | exact(bj (And.left (by with_reducible assumption)) ‹Below _ _ _›));done) | fail)
      (first
      | (go_at_call 172;((with_reducible refine(U.out _).mono ?_);rintro e w3⟨rfl,aa⟩;have P:Below wr.heap.size wr w3:=bj (And.left (by with_reducible assumption)) aa))
      | fail)
     all_goals
      go_wp2
      first
      | (go_roundw
         case rel =>
          refine⟨k+1,by omega,by go_num,fun i x y hi g f=>?_,bj a P⟩;rcases Nat.lt_or_ge (i+1) k with c|c
          ·exact D.out i x y c g f
          ·obtain rfl:i=m:=(by have:=T.out;omega);rw[s.out.1]at g;rw[s.out.2]at f;rw[<-qv g,<-qv f];exact G.out
         case measure=>simp[intOf];omega)
      | (go_ret
         exact⟨by rw[X.out m _ _ s.out.1 s.out.2 G.out];rfl,bj a P⟩)
  ·obtain rfl:k=n:=(by omega);have s1:¬(k:Int)<(k:Int):=(by omega);have ab:=Y.out (fun i x y g f=>D.out i x y (by have:=(qM.1 f).1;rw[<-u.out]at this;omega) g f);subst ab;go_wp2;go_ret;exact⟨rfl,a⟩
theorem ZA: ∀(l:List zn) (k:Nat) (x:zn),k<l.length->vR (l.set k x)=(((vR l).set (k*3) (.int .u64 (x.h:Nat))).set (k*3+1) (.int .i64 x.v)).set (k*3+2) (.int .i64 x.p)
 | [],k,x,h=>absurd h (Nat.not_lt_zero _)
 | y::l,0,x,_=>rfl
 | y::l,k+1,x,h=>by
   have ih:=ZA l k x (by simpa using h);have e:(k+1)*3=k*3+3:=(by omega);unfold vR at*;rw[List.set_cons_succ,List.flatMap_cons,List.flatMap_cons,ih,e];rfl
theorem jC.put{w:World}{base g n a k:Nat}{l:List zn}(h:jC w base (.slice (some ⟨g,0,none⟩) n a) l)(i:n=l.length)(f:k<n)(x:zn):
  jC (((w.setCell ⟨g,k*3,none⟩ (.int .u64 (x.h:Nat))).setCell ⟨g,k*3+1,none⟩ (.int .i64 x.v)).setCell ⟨g,k*3+2,none⟩ (.int .i64 x.p)) base (.slice (some ⟨g,0,none⟩) n a) (l.set k x):=by
 subst i;have b:=(h.stored (k*3) (.int .u64 (x.h:Nat))).1;have c:=(b.stored (k*3+1) (.int .i64 x.v)).1;have d:=(c.stored (k*3+2) (.int .i64 x.p)).1;unfold jC;rw[ZA l k x f,List.length_set];exact d
theorem jC.at_{w:World}{base g n b k:Nat}{l:List zn}(h:jC w base (.slice (some ⟨g,0,none⟩) n b) l)(d:n=l.length)(c:k<n):
  (∃x:zn,w.cell? ⟨g,k*3,none⟩=some (.int .u64 (x.h:Nat))/\w.cell? ⟨g,k*3+1,none⟩=some (.int .i64 x.v)/\w.cell? ⟨g,k*3+2,none⟩=some (.int .i64 x.p)) /\
  w.frozen? ⟨g,k*3,none⟩=false/\w.frozen? ⟨g,k*3+1,none⟩=false/\w.frozen? ⟨g,k*3+2,none⟩=false:=by
 subst d;have a:=qD c;refine⟨⟨l[k], ?_, ?_, ?_⟩,h.frozenAt _,h.frozenAt _,h.frozenAt _⟩
 ·exact(h.cellAt (k*3) (by omega)).trans (fX l k _ a 0 (by omega))
 ·exact(h.cellAt (k*3+1) (by omega)).trans (fX l k _ a 1 (by omega))
 ·exact(h.cellAt (k*3+2) (by omega)).trans (fX l k _ a 2 (by omega))
theorem jC.down{w:World}{base base':Nat}{v:Value}{l:List zn}(h:jC w base v l)(d:base'<=base):jC w base' v l:=by
 refine⟨h.1, ?_⟩;rcases h.2 with c|⟨g,a,b,i,f,r⟩
 ·exact qX c
 ·exact qY ⟨g,a,b,i,qR d f,r⟩
theorem sI{w w2:World}{g i j k:Nat}(h:Below w.heap.size w w2)(d:w.heap.size<=g)(a b c:Value):
  Below w.heap.size w (((w2.setCell ⟨g,i,none⟩ a).setCell ⟨g,j,none⟩ b).setCell ⟨g,k,none⟩ c):=((h.setCell d _).setCell d _).setCell d _
def yZ(s:Tw)(n k:Nat):List zn:=(List.range n).map fun i=>if i<k then enG (yX s i) else⟨0,0,0⟩
theorem mz(s:Tw)(n k:Nat):(yZ s n k).length=n:=by unfold yZ;rw[qj,List.length_range]
theorem ZB(s:Tw)(n:Nat):yZ s n n=yD s n:=by
 unfold yZ yD;apply List.map_congr_left;intro i a;rw[qK (List.mem_range.1 a)]
theorem sL(s:Tw)(n k i:Nat):(yZ s n k)[i]? = if i<n then some (if i<k then enG (yX s i) else⟨0,0,0⟩) else none:=by
 unfold yZ;rw[qz];by_cases h:i<n
 ·rw[List.getElem?_range h,qK h];rfl
 ·rw[List.getElem?_eq_none (by rw[List.length_range];omega),qJ h];rfl
theorem ZC(s:Tw){n k:Nat}(b:k<n):(yZ s n k).set k (enG (yX s k))=yZ s n (k+1):=by
 apply List.ext_getElem?;intro i;rw[List.getElem?_set,mz,sL,sL];by_cases h:k=i
 ·subst h;rw[qK rfl,qK b,qK b,qK (Nat.lt_succ_self _)]
 ·rw[qJ h];by_cases a:i<k
  ·rw[qK a,qK (show i<k+1 by omega)]
  ·rw[qJ a,qJ (show ¬i<k+1 by omega)]
theorem Bl(s:Tw):∀n,vR (yZ s n 0)=(madeCells #[Value.int .u64 0,.int .i64 0,.int .i64 0] (n*3)).toList:=by
 intro n;apply List.ext_getElem?;intro j;by_cases d:j<n*3
 ·have c:j/3<n:=by omega
  have a:=fX (yZ s n 0) (j/3) ⟨0,0,0⟩ (by rw[sL,qK c,qJ (Nat.not_lt_zero _)]) (j%3) (by omega);rw[show j/3*3+j%3=j by omega]at a;rw[a];unfold madeCells bR;rw[Array.toList_map,qz,Array.toList_range,List.getElem?_range d];have b:j%3<3:=by omega
  show _=some ((#[Value.int .u64 0,.int .i64 0,.int .i64 0]:Array Value)[j%3]!);generalize j%3=r at*
  match r,b with
  | 0,_=>rfl
  | 1,_=>rfl
  | 2,_=>rfl
 ·rw[List.getElem?_eq_none (by rw[fw,mz];omega),List.getElem?_eq_none (by rw[Array.length_toList,size_madeCells];omega)]
theorem ZD(s:Tw)(n:Nat)(g:n<=1000000):∃Z:Array Value,(∀w:World,(Instr.makeSlice 112 (.int .i64 (n:Nat)) (.int .i64 (n:Nat))).run prog w = .ok (.slice (some ⟨w.heap.size,0,none⟩) n n) (w.alloc (.cells Z 117))) /\
  ∀w:World,jC (w.alloc (.cells Z 117)) w.heap.size (.slice (some ⟨w.heap.size,0,none⟩) n n) (yZ s n 0):=by
 obtain⟨f,b,c,a,d⟩:=info_parts sW;refine⟨madeCells #[Value.int .u64 0,.int .i64 0,.int .i64 0] (n*3),fun w=>?_,fun w=>?_⟩
 ·have h:=run_makeSlice (P:=prog) w 112 117 f _ Tryz.underlying112 b c .i64 .i64 (n:Int) (n:Int) (by omega) (Int.le_refl _) (by rw[a];omega) (by rw[d];omega) (by omega);rw[a,qh]at h;exact h
 ·have h:=World.ownsRow_lit (base:=w.heap.size) (e:=117) (size:=3) w (madeCells #[Value.int .u64 0,.int .i64 0,.int .i64 0] (n*3)) n (qZ _) (by unfold maxLen;omega) (size_madeCells _ _);unfold jC;rw[mz,Bl];exact h
def cH(w:World)(s:Tw)(e:Ending)(w':World):Prop:=∃A c,e = .returned (.tuple #[.slice A (tgL s).length c,.int .i64 (tgE s)])/\jC w' w.heap.size (.slice A (tgL s).length c) (tgL s)/\Below w.heap.size w w'
theorem Bm{w w':World}{s:Tw}{e:Ending}(h:ve s=false)(d:e = .returned (.tuple #[.slice none 0 0,.int .i64 90]))(c:Below w.heap.size w w'):cH w s e w':=by
 obtain⟨a,b⟩:=sY h;unfold cH;rw[a,b];exact⟨none,0,d,jC.nil _ _,c⟩
theorem ZE(s:Tw)(w:World)(hs:s.size<=1100000):
  Calls prog 232 #[.string s] w (cH w s):=by
 have K:s.size<=maxLen:=by unfold maxLen;omega
 have o:=fun W=>BQ s W K
 have t:ve s=false->Hid (∀d:World,Below w.heap.size w d->cH w s (.returned (.tuple #[.slice none 0 0,.int .i64 90])) d):=fun h=>qQ fun d r=>Bm h rfl r
 cases j:dG s with
 | false =>
   rw[j]at o;have D:=qQ o
   have p:=t (by
    cases e:ve s with
    | false=>rfl
    | true =>
      have h:=dw.1 e;rw[show dG s=true from qW ⟨h.1,h.2.1⟩]at j;cases j)
   generalize fQ s=m at*;clear o t j K;go_enter func232,ntmps232;go_wp2_with fail;refine(D.out _).mono ?_;rintro e f⟨rfl,rfl⟩;go_wp2;go_ret2;exact p.out _ (Below.refl _ _)
 | true =>
 rw[j]at o;have ac:fQ s=(tbN s:Nat):=by unfold fQ;rw[j];rfl
 rw[ac]at o;have D:=qQ o;have R:=of_decide_eq_true j;have H:=fun W=>Xn (tbN s:Nat) W
 by_cases u:(s.size:Int)=bT (tbN s:Nat)
 case neg =>
  have p:=t (by
   cases e:ve s with
   | false=>rfl
   | true =>
     have h:=dw.1 e;exact absurd (by rw[(fi h.2.2.1).1,<-h.2.2.2.1]) u)
  have O:=qQ H;have t1:((s.size:Int) != bT (tbN s:Nat))=true:=by rw[bne_iff_ne];exact u
  clear o t j ac u R H K;generalize bT (tbN s:Nat)=z at*;generalize tbN s=n at*;go_enter func232,ntmps232;go_wp2_with fail;refine(D.out _).mono ?_;rintro e f⟨rfl,rfl⟩;go_wp2_with fail;refine(O.out _).mono ?_;rintro e f⟨rfl,rfl⟩;go_wp2;go_ret2;exact p.out _ (Below.refl _ _)
 have S:tbN s<=89478484/\s.size=12+24*tbN s:=by
  by_cases h:tbN s<=89478484
  ·rw[(fi h).1]at u;exact⟨h,by omega⟩
  ·rw[(oW (qY (by omega))).1]at u;omega
 have ah:bT (tbN s:Nat)=(s.size:Int):=u.symm;rw[ah]at H;have O:=qQ H;have F:=fun W=>rW s W K
 cases B:vt s with
 | false =>
   rw[B]at F;have X:=qQ F
   have p:=t (by
    cases e:ve s with
    | false=>rfl
    | true =>
      have h:=dw.1 e;rw[h.2.2.2.2.1]at B;cases B)
   generalize opA s=oa at*;clear o t j ac u R H ah F B S K;generalize tbN s=n at*;go_enter func232,ntmps232;go_wp2_with fail;refine(D.out _).mono ?_;rintro e f⟨rfl,rfl⟩;go_wp2_with fail;refine(O.out _).mono ?_;rintro e f⟨rfl,rfl⟩;go_wp2_with fail;refine(X.out _).mono ?_;rintro e f⟨rfl,aa⟩;go_wp2;go_ret2;exact p.out _ aa
 | true =>
 rw[B]at F;have X:=qQ F;obtain⟨Z,ax,ao⟩:=ZD s (tbN s) (by omega);have an:=qQ ao
 have aw:Hid ((∀i,i<tbN s->vc (yX s i)=true)->uU (yD s (tbN s))=true->∀(A:Option Addr) c (d:World),jC d w.heap.size (.slice A (tbN s) c) (yD s (tbN s))->Below w.heap.size w d->cH w s (.returned (.tuple #[.slice A (tbN s) c,.int .i64 0])) d):=qQ fun h1 h2 A c d hr r=>by
  obtain⟨e1,e2⟩:=oU (dw.2 ⟨R.1,R.2,S.1,S.2,B,h1,h2⟩);unfold cH;rw[e1,e2,oG];exact⟨A,c,rfl,hr,r⟩
 have am:Hid ((∃i,i<tbN s/\vc (yX s i)=false)∨uU (yD s (tbN s))=false->∀d:World,Below w.heap.size w d->cH w s (.returned (.tuple #[.slice none 0 0,.int .i64 90])) d):=qQ fun h d r=>(t (by
  cases e:ve s with
  | false=>rfl
  | true =>
    have h2:=dw.1 e;rcases h with⟨i,hi,Q⟩|Q
    ·rw[h2.2.2.2.2.2.1 i hi]at Q;cases Q
    ·rw[h2.2.2.2.2.2.2]at Q;cases Q)).out d r
 have av:=qQ (show ∀k,k<tbN s->(yZ s (tbN s) k).set k (enG (yX s k))=yZ s (tbN s) (k+1) from fun k hk=>ZC s hk);have au:=qQ (ZB s (tbN s));have U:=qQ (show ∀k,(yZ s (tbN s) k).length=tbN s from fun k=>mz s (tbN s) k);have ay:=S.2;generalize opA s=oa at*;clear o t j ac u R H ah F B S ao K;generalize tbN s=n at*;have hw:IntKind.i64.wrap (n:Int)=(n:Int):=IntWalk.i64_in _ ⟨by omega,by omega⟩;go_enter func232,ntmps232;go_wp2_with fail;refine(D.out _).mono ?_;rintro e f⟨rfl,rfl⟩;go_wp2_with fail;refine(O.out _).mono ?_;rintro e f⟨rfl,rfl⟩;go_wp2_with fail;refine(X.out _).mono ?_;rintro e f⟨rfl,aa⟩;have hR:=an.out f;have T:=qQ aa;have aq:=(Below.refl f.heap.size f).alloc (qZ _) (.cells Z 117);clear an aa D O X;go_wp2;go_loopw [35] (fun i wr=>∃k:Nat,k<=n/\i = .int .i64 k/\(∀i,i<k->vc (yX s i)=true)/\jC wr f.heap.size (.slice (some ⟨f.heap.size,0,none⟩) n n) (yZ s n k)/\Below f.heap.size f wr) (fun i _=>n-(intOf i).toNat)
 case atStart=>exact⟨0,qH _,rfl,fun i h=>absurd h (by omega),hR,aq⟩
 case round =>
  obtain⟨k,hk,rfl,ap,M,ab⟩:=hrel;clear hR aq ax;have HA:=qQ ap;clear ap;by_cases J:k<n
  ·have s1:(k:Int)<(n:Int):=(by omega);obtain⟨a,ha⟩:∃a,a=8+24*k:=⟨_,rfl⟩
   obtain⟨b,r⟩:∃b,b=32+24*k:=⟨_,rfl⟩
   have ai:Hid (∀W,Calls prog 223 #[.int .i64 (k:Nat)] W fun e d=>e = .returned (.int .i64 (a:Nat))/\W=d):=qQ fun W=>by
    have:=oA (k:Nat) W;rw[(fi (by omega)).2,<-ha]at this;exact this
   have aj:Hid (∀W,Calls prog 223 #[.int .i64 ((k:Int)+1)] W fun e d=>e = .returned (.int .i64 (b:Nat))/\W=d):=qQ fun W=>by
    have:=oA ((k+1:Nat):Int) W;rw[(fi (by omega)).2,show 8+24*(k+1)=b by omega]at this;exact this
   have P:yX s k=s.extract a b:=(by rw[ha,r];rfl);have q:=fun W=>ZZ (s.extract a b) W (by unfold maxLen;rw[qS];omega)
   rw[<-P]at q;have af:=qQ (av.out k J);have x1:(a:Int)<=(b:Int):=(by omega);have x2:(b:Int)<=(s.size:Int):=(by omega);have x3:a<=b:=(by omega);have x4:b<=s.size:=(by omega);have Y:=qQ M;have ak:=qQ ab;have ad:Hid (vc (yX s k)=vc (yX s k)):=qQ rfl;rw[P]at q af;rw[P]at ad;have al:=qQ P;clear P ha r M ab;cases L:vc (s.extract a b) with
   | false =>
     rw[L]at q;have p:=qQ (am.out (qX ⟨k,J,by rw[al.out];exact L⟩));have ae:=qQ q;clear q L ad af;generalize enG (s.extract a b)=x at*;obtain⟨xh,xv,xp⟩:=x;go_wp2_with fail;refine(ai.out _).mono ?_;rintro e C⟨rfl,rfl⟩;go_wp2_with fail;refine(aj.out _).mono ?_;rintro e C⟨rfl,rfl⟩;go_wp2_with fail;refine(ae.out _).mono ?_;rintro e C⟨rfl,g⟩;have I:=Y.out.below g (qZ _);obtain⟨⟨y,q0,q1,q2⟩,f0,f1,f2⟩:=I.at_ (U.out k).symm J;have R3:=qQ (I.put (U.out k).symm J ⟨xh,xv,xp⟩);go_wp2;go_ret2;exact p.out _ (bj T.out (sI (bj ak.out g) (qZ _) _ _ _))
   | true =>
     rw[L]at q;have ae:=qQ q
     have ar:=qQ (show ∀i,i<k+1->vc (yX s i)=true from fun i hi=>by
      rcases Nat.lt_or_ge i k with c|c
      ·exact HA.out i c
      ·obtain rfl:i=k:=(by omega);rw[al.out];exact L)
     clear q L ad;generalize enG (s.extract a b)=x at*;obtain⟨xh,xv,xp⟩:=x;go_wp2_with fail;refine(ai.out _).mono ?_;rintro e C⟨rfl,rfl⟩;go_wp2_with fail;refine(aj.out _).mono ?_;rintro e C⟨rfl,rfl⟩;go_wp2_with fail;refine(ae.out _).mono ?_;rintro e C⟨rfl,g⟩;have I:=Y.out.below g (qZ _);obtain⟨⟨y,q0,q1,q2⟩,f0,f1,f2⟩:=I.at_ (U.out k).symm J;have R3:=I.put (U.out k).symm J ⟨xh,xv,xp⟩;rw[af.out]at R3;have R4:=qQ R3;clear R3 I;go_wp2;exact⟨⟨k+1,by omega,by go_num,ar.out,R4.out,sI (bj ak.out g) (qZ _) _ _ _⟩,by simp[intOf];omega⟩
  ·obtain rfl:k=n:=(by omega);have s1:¬(k:Int)<(k:Int):=(by omega);rw[au.out]at M;have G:=Bh _ _ wr (jC.qw M) (by rw[oG];omega);have Y:=qQ M;clear M;cases N:uU (yD s k) with
   | false =>
     rw[N]at G;have ag:=qQ G;have p:=qQ (am.out (qY N));clear G N;go_wp2_with fail;refine ag.out.mono ?_;rintro e C⟨rfl,g⟩;go_wp2;go_ret2;exact p.out _ (bj T.out (bj ab g))
   | true =>
     rw[N]at G;have ag:=qQ G;have HY:=qQ (aw.out HA.out N);clear G N;go_wp2_with fail;refine ag.out.mono ?_;rintro e C⟨rfl,g⟩;go_wp2;go_ret2;exact HY.out _ _ _ (jC.down (jC.below Y.out g (qZ _)) T.out.size) (bj T.out (bj ab g))
end
section
open Go.RowKit
theorem Bn{l:List zn}{x y:zn}(h:y∈l):y∈kS l x:=by
 unfold kS;split
 ·exact h
 ·rw[<-ql (kV l x) l]at h;rcases qC.1 h with h|h
  ·exact qA _ (qA _ h)
  ·exact qV _ h
theorem Bp(l:List zn)(x:zn):x∈kS l x:=by
 unfold kS;split
 ·rename_i h;exact qO h
 ·exact qA _ (qV _ (qE.2 rfl))
theorem Br{l:List zn}{x y:zn}:y∈kS l x↔y∈l∨y=x :=
 ⟨oY,fun h=>by
  rcases h with h|rfl
  ·exact Bn h
  ·exact Bp l y⟩
theorem ZF{l:List zn}(a:jj l){x:zn}(h:x∈l):l[kV l x]? = some x:=by
 rcases Decidable.em (l[kV l x]? = some x) with c|c
 ·exact c
 ·rw[<-ql (kV l x) l]at h;rcases qC.1 h with h|h
  ·have:=sQ l x x h;rw[mP]at this;cases this
  ·have:=Xf a c x h;rw[mP]at this;cases this
theorem Bt{l:List zn}(a:jj l){x:zn}:l[kV l x]? = some x↔x∈l:=⟨qO,ZF a⟩
theorem Ba{l:List zn}(a:jj l){x:zn}(h:x∈l):kS l x=l:=by unfold kS;rw[qK (ZF a h)]
theorem Be{l:List zn}{x:zn}(h:x ∉ l):kS l x=l.take (kV l x)++([x]++l.drop (kV l x)):=by
 unfold kS;rw[qJ (fun k=>h (qO k)),qd]
theorem Bi{l:List zn}(j:jj l){x y:zn}{i:Nat}(h:l[i]? = some y):(!jE y x)=decide (kV l x<=i):=by
 by_cases c:kV l x<=i
 ·rw[qW c];cases d:jE y x with
  | false=>rfl
  | true =>
    exfalso;have b:=(qM.1 h).1;have f:kV l x<l.length:=(by omega);have a:(!jE l[kV l x] x)=true:=List.findIdx_getElem (p:=fun y=>!jE y x) (xs:=l) (w:=f);rw[Bool.not_eq_true']at a;rcases Nat.lt_or_ge (kV l x) i with k|k
    ·have:=List.pairwise_iff_getElem.1 j (kV l x) i f b k;rw[qD b]at h;rw[qv h]at this;rw[dU this d]at a;cases a
    ·have e:i=kV l x:=(by omega);subst e;rw[qD b]at h;rw[qv h,d]at a;cases a
 ·rw[qG c];have g:y∈l.take (kV l x):=qO (i:=i) (by rw[List.getElem?_take,qK (by omega)];exact h);rw[sQ l x y g];rfl
end
section
open Go.ChangeShapes Go.WideShapes Go.ChangeAt Go.RowKit Go.Deep
structure jD where
 t:Tw
 d:Tw
 b:Nat
def vJ(s:Tw)(f:Int)(v:Value):Value:=.agg #[.string s,.int .i64 f,v]
end
end Go.Proofs.YthejglbnkmimjaaGreat

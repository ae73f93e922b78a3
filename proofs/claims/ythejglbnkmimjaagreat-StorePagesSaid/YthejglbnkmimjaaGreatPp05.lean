import Derived.Test.YthejglbnkmimjaaGreatPp03
import Derived.Lib.SlicesCompact
import Derived.Deep.DrawnRows
set_option linter.unusedVariables false
set_option maxRecDepth 100000
set_option maxHeartbeats 9000000
namespace Go.Proofs.YthejglbnkmimjaaGreat
open Proofs.Tryz
section
open Go.RowKit
def jm(x y:jI):Bool:=decide (x.h<y.h∨(x.h=y.h/\(x.v<y.v∨(x.v=y.v/\x.p<y.p))))
theorem mZ{x y:jI}:jm x y=true↔(x.h<y.h∨(x.h=y.h/\(x.v<y.v∨(x.v=y.v/\x.p<y.p)))):=by unfold jm;exact decide_eq_true_iff
theorem oM{x y:jI}(a:x.h=y.h)(b:x.v=y.v)(c:x.p=y.p):x=y:=by cases x;cases y;simp_all
instance qYc : DecidableEq jI := fun x y => decidable_of_iff (x.h = y.h /\ x.v = y.v /\ x.p = y.p) ⟨fun h => oM h.1 h.2.1 h.2.2, fun h => by subst h; exact ⟨rfl, rfl, rfl⟩⟩
theorem rM(x:jI):jm x x=false:=by unfold jm;exact qA (by omega)
theorem mJ{x y z:jI}(h:jm x y=true)(k:jm y z=true):jm x z=true:=by rw[mZ]at*;omega
theorem ZO{x y:jI}(h:jm x y=false)(b:x≠y):jm y x=true:=by
 rcases Decidable.em (jm y x=true) with c|c
 ·exact c
 ·exfalso;apply b;have a:¬jm x y=true:=by rw[h];decide
  rw[mZ]at a c;exact oM (by omega) (by omega) (by omega)
def mayE(x:jI):Bool:=decide (0<=x.v/\0<=x.p)
def uh(x:jI):List UInt8:=be 8 x.h++(be 8 x.v.toNat++be 8 x.p.toNat)
def vg(x:jI):Tw:=if mayE x=true then bs (uh x) else ByteArray.empty
def enV(s:Tw):Nat:=jz (s.extract 8 16)
def enP(s:Tw):Nat:=jz (s.extract 16 24)
def vi(s:Tw):Bool:=decide (s.size=24/\enV s<9223372036854775808/\enP s<9223372036854775808)
def enG(s:Tw):jI:=if vi s=true then⟨jz (s.extract 0 8),(enV s:Nat),(enP s:Nat)⟩ else⟨0,0,0⟩
theorem ZP(x:jI):(uh x).length=24:=by unfold uh;rw[qL,qL,je,je,je]
theorem ZR{x:jI}(h:mayE x=true):(vg x).size=24:=by unfold vg;rw[qV h,kP,ZP]
theorem Yc(l:List UInt8):(bs l).data.toList=l:=by simp[bs]
theorem oN(s:Tw)(i j:Nat):(s.extract i j).data.toList=(s.data.toList.drop i).take (j-i):=by
 rw[ByteArray.data_extract,Array.toList_extract,List.extract_eq_take_drop]
theorem ZS: (256:Nat) ^ 8=18446744073709551616:=by decide
theorem oO{s:Tw}{l:List UInt8}(h:s.data.toList=l)(a:l.length=8):jz s=un l:=by unfold jz;rw[h,qm (by omega)]
theorem Yd{x:jI}(n:ks x)(h:mayE x=true):vi (vg x)=true/\enG (vg x)=x:=by
 have u:=of_decide_eq_true h;obtain⟨i,q,r,s,t⟩:=n;have j:=ZR h;have e:(vg x).data.toList=uh x:=by unfold vg;rw[qV h,Yc]
 have a:=je 8 x.h;have b:=je 8 x.v.toNat;have o:=je 8 x.p.toNat
 have g:jz ((vg x).extract 0 8)=x.h:=by
  rw[oO (l:=be 8 x.h) _ a,dH,ZS,Nat.mod_eq_of_lt i];rw[oN,e,List.drop_zero];unfold uh;rw[List.take_left' a]
 have c:enV (vg x)=x.v.toNat:=by
  unfold enV;rw[oO (l:=be 8 x.v.toNat) _ b,dH,ZS,Nat.mod_eq_of_lt (by omega)];rw[oN,e];unfold uh;rw[List.drop_left' a,List.take_left' b]
 have d:enP (vg x)=x.p.toNat:=by
  unfold enP;rw[oO (l:=be 8 x.p.toNat) _ o,dH,ZS,Nat.mod_eq_of_lt (by omega)];rw[oN,e];unfold uh;rw[show(16:Nat)=8+8 from rfl,<-List.drop_drop,List.drop_left' a,List.drop_left' b,qm (by omega)]
 have f:vi (vg x)=true:=by
  unfold vi;rw[c,d];exact qB ⟨j,by omega,by omega⟩
 refine⟨f, ?_⟩;unfold enG;rw[qV f,g,c,d];exact oM rfl (by show((x.v.toNat:Nat):Int)=x.v;omega) (by show((x.p.toNat:Nat):Int)=x.p;omega)
theorem Oz: vi ByteArray.empty=false:=by unfold vi;exact qA (fun h=>by have:(0:Nat)=24:=h.1;omega)
theorem ta{x:jI}(h:mayE x=false):vg x=ByteArray.empty:=by unfold vg;rw[h];rfl
theorem Oj{x:jI}(a:ks x):vi (vg x)=mayE x:=by
 cases h:mayE x with
 | true=>exact(Yd a h).1
 | false=>rw[ta h,Oz]
theorem Ov{s:Tw}(h:vi s=true):mayE (enG s)=true/\vg (enG s)=s:=by
 have p:=of_decide_eq_true h;obtain⟨r,y,u⟩:=p
 have i:mayE (enG s)=true:=by
  unfold enG mayE;rw[qV h];exact qB ⟨by show(0:Int)<=((enV s:Nat):Int);omega,by show(0:Int)<=((enP s:Nat):Int);omega⟩
 refine⟨i, ?_⟩;have t:s.data.toList.length=24:=by rw[Array.length_toList];exact r
 have a:((s.data.toList.drop 0).take 8).length=8:=by rw[qT,qw];omega
 have b:((s.data.toList.drop 8).take 8).length=8:=by rw[qT,qw];omega
 have c:((s.data.toList.drop 16).take 8).length=8:=by rw[qT,qw];omega
 have d:=mg ((s.data.toList.drop 0).take 8);have f:=mg ((s.data.toList.drop 8).take 8);have g:=mg ((s.data.toList.drop 16).take 8);rw[a]at d;rw[b]at f;rw[c]at g;have j:jz (s.extract 0 8)=un ((s.data.toList.drop 0).take 8):=oO (oN s 0 8) a;have n:enV s=un ((s.data.toList.drop 8).take 8):=oO (oN s 8 16) b;have o:enP s=un ((s.data.toList.drop 16).take 8):=oO (oN s 16 24) c
 have e:uh (enG s)=s.data.toList:=by
  unfold enG uh;rw[qV h];show be 8 (jz (s.extract 0 8))++(be 8 ((enV s:Nat):Int).toNat++be 8 ((enP s:Nat):Int).toNat)=_;rw[qa,qa,j,n,o,d,f,g,List.drop_zero];rw[show(16:Nat)=8+8 from rfl,<-List.drop_drop];have q:(((s.data.toList.drop 8).drop 8).take 8)=(s.data.toList.drop 8).drop 8:=qm (by rw[qw,qw];omega);rw[q,qp,qp]
 unfold vg;rw[qV i,e,cr]
theorem Yf{s:Tw}(h:vi s=false):enG s=⟨0,0,0⟩:=by unfold enG;rw[h];rfl
theorem Oy{s:Tw}(h:s.size≠24):vi s=false:=by unfold vi;exact qA (fun x=>h x.1)
def uZ: List jI->Bool
 | []=>true
 | [_]=>true
 | x::y::l=>jm x y&&uZ (y::l)
theorem ZT: ∀ {l:List jI},(∀(i:Nat) (x y:jI),l[i]? = some x->l[i+1]? = some y->jm x y=true)->uZ l=true
 | [],_=>rfl
 | [_],_=>rfl
 | x::y::l,h=>by
   unfold uZ;rw[h 0 x y rfl rfl,Bool.true_and];exact ZT fun i a b ha hb=>h (i+1) a b (by simpa using ha) (by simpa using hb)
theorem Yh: ∀ {l:List jI},uZ l=true->∀(i:Nat) (x y:jI),l[i]? = some x->l[i+1]? = some y->jm x y=true
 | [],_=>fun i x y c _=>by simp at c
 | [_],_=>fun i x y _ d=>by simp at d
 | a::b::l,h=>by
   unfold uZ at h;rw[Bool.and_eq_true]at h;intro i x y c d;cases i with
   | zero =>
     obtain rfl:a=x:=(by simpa using c);obtain rfl:b=y:=(by simpa using d);exact h.1
   | succ i=>exact Yh h.2 i x y (by simpa using c) (by simpa using d)
theorem Ou{l:List jI}{i:Nat}{x y:jI}(b:l[i]? = some x)(c:l[i+1]? = some y)(h:jm x y=false):uZ l=false:=by
 cases a:uZ l with
 | false=>rfl
 | true=>rw[Yh a i x y b c]at h;cases h
def kY(l:List jI):Prop:=l.Pairwise (fun x y=>jm x y=true)
theorem kY.sorted{l:List jI}(h:kY l):uZ l=true:=ZT fun i x y c a=>by
 have b:=(qO.1 a).1;have:=xY.1 h i (i+1) (by omega) b (by omega);rw[qE (by omega)]at c;rw[qE b]at a;rw[<-qb c,<-qb a];exact this
theorem Yl: ∀ {l:List jI},uZ l=true->kY l
 | [],_=>List.Pairwise.nil
 | [x],_=>List.pairwise_singleton _ _
 | x::y::l,h=>by
   unfold uZ at h;rw[Bool.and_eq_true]at h;have hr:=Yl h.2;refine List.Pairwise.cons (fun z a=>?_) hr;rcases qM.1 a with rfl|a
   ·exact h.1
   ·exact mJ h.1 ((xU.1 hr).1 z a)
def vP(l:List jI)(x:jI):Nat:=l.findIdx (fun y=>!jm y x)
def vp(l:List jI)(x:jI):List jI:=if l[vP l x]? = some x then l else l.take (vP l x)++[x]++l.drop (vP l x)
theorem Z1(l:List jI)(x:jI):vP l x<=l.length:=List.findIdx_le_length
theorem Z2(l:List jI)(x:jI):∀y∈l.take (vP l x),jm y x=true:=by
 intro y c;obtain⟨j,a⟩:=ql c;have b:=(qO.1 a).1;rw[qT]at b;rw[List.getElem?_take,qV (by omega),qE (by omega)]at a;have e:=qb a;have:=List.not_of_lt_findIdx (p:=fun y=>!jm y x) (xs:=l) (i:=j) (by unfold vP at b;omega);rw[e]at this;simpa using this
theorem Ym{l:List jI}{x:jI}(j:kY l)(i:l[vP l x]?≠some x):∀y∈l.drop (vP l x),jm x y=true:=by
 rcases qd (vP l x) l.length with c|c
 ·have e:l.drop (vP l x)=l[vP l x]::l.drop (vP l x+1):=xZ c
  have f:jm l[vP l x] x=false:=by
   have h:(!jm l[vP l x] x)=true:=List.findIdx_getElem (p:=fun y=>!jm y x) (xs:=l) (w:=c);rw[Bool.not_eq_true']at h;exact h
  have g:l[vP l x]≠x:=fun h=>i (by rw[qE c,h])
  have b:=ZO f g;have d:kY (l.drop (vP l x)):=List.Pairwise.drop j;rw[e]at d ⊢;intro y a;rcases qM.1 a with rfl|a
  ·exact b
  ·exact mJ b ((xU.1 d).1 y a)
 ·rw[List.drop_eq_nil_of_le c];intro y a;cases a
theorem Yn{l:List jI}(f:kY l)(x:jI):kY (vp l x):=by
 unfold vp;split
 ·exact f
 ·rename_i j;have g:=Z2 l x;have i:=Ym f j;refine List.pairwise_append.2 ⟨List.pairwise_append.2 ⟨List.Pairwise.take f,List.pairwise_singleton _ _,fun a c b d=>?_⟩,List.Pairwise.drop f,fun a c b d=>?_⟩
  ·rw[qH.1 d];exact g a c
  ·rcases qD.1 c with c|c
   ·exact mJ (g a c) (i b d)
   ·rw[qH.1 c];exact i b d
theorem ti{l:List jI}{x y:jI}(h:y∈vp l x):y∈l∨y=x:=by
 unfold vp at h;split at h
 ·exact qX h
 ·rcases qD.1 h with h|h
  ·rcases qD.1 h with h|h
   ·exact qX (List.mem_of_mem_take h)
   ·exact qY (qH.1 h)
  ·exact qX (List.mem_of_mem_drop h)
theorem Og(l:List jI)(x:jI):(vp l x).length<=l.length+1:=by
 unfold vp;split
 ·omega
 ·rw[qL,qL,qT,qw,List.length_singleton];have:=Z1 l x;omega
theorem Yp(l:List jI)(k:Nat)(x:jI)(h:l[k]? = some x):l.take (k+1)=l.take k++[x]:=by
 rw[xQ,h];rfl
def gP(h:Nat)(v:Int)(x:jI):Bool:=decide (x.h<h∨(x.h=h/\x.v<v))
def uF(h:Nat)(v:Int)(x:jI):Bool:=decide (x.h<h∨(x.h=h/\x.v<=v))
def inQ(h:Nat)(a b:Int)(x:jI):Bool:=decide (x.h=h/\a<=x.v/\x.v<=b)
def upQ(h:Nat)(b:Int)(x:jI):Bool:=decide (x.h=h/\x.v<=b)
def nV(l:List jI)(h:Nat)(v:Int):Nat:=l.countP (gP h v)
def vD(l:List jI)(h:Nat)(a b:Int):List jI:=l.filter (inQ h a b)
def fD(l:List jI)(h:Nat)(b:Int):Option jI:=(l.filter (upQ h b)).getLast?
def yZ(l:List jI)(h:Nat)(b:Int):jI:=(fD l h b).getD ⟨0,0,0⟩
def yB(l:List jI)(h:Nat)(b:Int):Bool:=(fD l h b).isSome
def uB(q:jI->Bool)(l:List jI)(k:Nat):Prop:=∀(i:Nat) (x:jI),l[i]? = some x->q x=decide (i<k)
theorem nY{q:jI->Bool}(g:∀x y,jm x y=true->q y=true->q x=true):∀ {l:List jI},kY l->uB q l (l.countP q)
 | [],_=>fun i x h=>by simp at h
 | a::l,hr=>by
   obtain⟨n,o⟩:=xU.1 hr;have p:=nY g o;intro i x c;cases b:q a with
   | true =>
     rw[List.countP_cons_of_pos b];cases i with
     | zero =>
       obtain rfl:a=x:=(by simpa using c);rw[b,qB (Nat.succ_pos _)]
     | succ i =>
       rw[p i x (by simpa using c),decide_eq_decide];omega
   | false =>
     have f:∀y∈l,q y=false:=fun y d=>by
      cases h:q y with
      | false=>rfl
      | true=>rw[g a y (n y d) h]at b;cases b
     have j:l.countP q=0:=List.countP_eq_zero.2 fun y d=>by rw[f y d];decide
     rw[List.countP_cons_of_neg (by rw[b];decide),j,qA (Nat.not_lt_zero _)];cases i with
     | zero =>
       obtain rfl:a=x:=(by simpa using c);exact b
     | succ i=>exact f x (qN (by simpa using c))
theorem Yr(h:Nat)(v:Int):∀x y,jm x y=true->gP h v y=true->gP h v x=true:=by
 intro x y a b;rw[mZ]at a;have:=of_decide_eq_true b;exact qB (by omega)
theorem Z4(h:Nat)(v:Int):∀x y,jm x y=true->uF h v y=true->uF h v x=true:=by
 intro x y a b;rw[mZ]at a;have:=of_decide_eq_true b;exact qB (by omega)
theorem uB.tail{q:jI->Bool}{x:jI}{l:List jI}{k:Nat}(h:uB q (x::l) k):q x=decide (0<k)/\uB q l (k-1) :=
 ⟨h 0 x rfl,fun i y a=>by rw[h (i+1) y (by simpa using a),decide_eq_decide];omega⟩
theorem Ys{q r:jI->Bool}:∀ {l:List jI} {a b:Nat},uB q l a->uB r l b->l.filter (fun x=>!q x&&r x)=(l.drop a).take (b-a)
 | [],a,b,_,_=>by simp
 | x::l,a,b,hq,hr=>by
   obtain⟨d,f⟩:=hq.tail;obtain⟨g,i⟩:=hr.tail;have c:=Ys f i;rw[List.filter_cons,d,g,c];cases a with
   | zero =>
     cases b with
     | zero=>simp
     | succ b=>simp
   | succ a =>
     have e:decide (0<a+1)=true:=qB (Nat.succ_pos _);rw[e];simp only[Bool.not_true,Bool.false_and,Bool.false_eq_true,if_false,Nat.add_sub_cancel,List.drop_succ_cons];congr 1;omega
theorem Ob{l:List jI}{h:Nat}{a b:Int}{i j:Nat}(c:uB (gP h a) l i)(d:uB (uF h b) l j):vD l h a b=(l.drop i).take (j-i):=by
 rw[<-Ys c d];unfold vD;congr 1;funext x;unfold inQ gP uF;rw[<-decide_not,<-Bool.decide_and,decide_eq_decide];omega
theorem Oc{p:jI->Bool}{l:List jI}{i:Nat}{x:jI}(n:l[i]? = some x)(g:p x=true)(f:∀j y,i<j->l[j]? = some y->p y=false):(l.filter p).getLast? = some x:=by
 obtain⟨d,e⟩:=qO.1 n
 have b:l=l.take i++(x::l.drop (i+1)):=by
  rw[<-e,<-xZ d,qp]
 have c:(l.drop (i+1)).filter p=[]:=by
  rw[List.filter_eq_nil_iff];intro y o;obtain⟨j,a⟩:=ql o;rw[List.getElem?_drop]at a;rw[f _ y (by omega) a];decide
 rw[b,List.filter_append,List.filter_cons,qV g,c];simp
theorem Z5{p:jI->Bool}{l:List jI}(a:∀y∈l,p y=false):(l.filter p).getLast? = none:=by
 have:l.filter p=[]:=List.filter_eq_nil_iff.2 fun y b=>by rw[a y b];decide
 rw[this];rfl
theorem Z6{l:List jI}{h:Nat}{b:Int}{k:Nat}{x:jI}(a:uB (uF h b) l (k+1))(c:l[k]? = some x)(d:x.h=h):fD l h b=some x:=by
 have g:=of_decide_eq_true ((a k x c).trans (qB (Nat.lt_succ_self k)));refine Oc c (qB ⟨d,by omega⟩) fun j y n f=>?_
 have i:=of_decide_eq_false ((a j y f).trans (qA (by omega)));exact qA (by omega)
theorem Z7{l:List jI}{h:Nat}{b:Int}{k:Nat}{x:jI}(n:kY l)(f:uB (uF h b) l (k+1))(a:l[k]? = some x)(q:x.h≠h):fD l h b=none:=by
 refine Z5 fun y o=>?_
 obtain⟨j,d⟩:=ql o;have p:=of_decide_eq_true ((f k x a).trans (qB (Nat.lt_succ_self k)));have g:=f j y d;unfold upQ;rcases Nat.lt_trichotomy j k with c|c|c
 ·have i:=(qO.1 a).1;have:=xY.1 n j k (by omega) i c;rw[qE (by omega)]at d;rw[qE i]at a;rw[qb d,qb a,mZ]at this;exact qA (by omega)
 ·subst c;rw[d]at a;obtain rfl:=qb a;exact qA (by omega)
 ·rw[qA (by omega)]at g;have:=of_decide_eq_false g;exact qA (by omega)
theorem Z8{l:List jI}{h:Nat}{b:Int}(a:uB (uF h b) l 0):fD l h b=none:=by
 refine Z5 fun y d=>?_
 obtain⟨j,c⟩:=ql d;have:=of_decide_eq_false ((a j y c).trans (qA (Nat.not_lt_zero _)));exact qA (by omega)
def yz(l:List jI):List UInt8:=l.flatMap uh
def mK: List UInt8:=[112,116,97,98]
def um(n:Nat):List UInt8:=mK++be 4 n
def lJ(l:List jI):Tw:=bs (um l.length++yz l)
def tbB(l:List jI):Tw:=vv (lJ l)
def uq(l:List jI):Bool:=uZ l&&l.all mayE
def tbS(l:List jI):Tw:=if uq l=true then tbB l else ByteArray.empty
def tbE(l:List jI):Int:=if uq l=true then 0 else 2
theorem tw(n:Nat):(um n).length=8:=by unfold um;rw[qL,je];rfl
theorem Z9(x:jI)(l:List jI):yz (x::l)=uh x++yz l:=by unfold yz;rw[List.flatMap_cons]
theorem Yt(a b:List jI):yz (a++b)=yz a++yz b:=by unfold yz;rw[List.flatMap_append]
theorem Od(x:jI):yz [x]=uh x:=by rw[Z9];show _++[]=_;rw[List.append_nil]
theorem QQ: ∀l:List jI,(yz l).length=24*l.length
 | []=>rfl
 | x::l=>by rw[Z9,qL,ZP,QQ l,qu];omega
theorem Of{l:List jI}{k:Nat}{x:jI}(h:l[k]? = some x):yz (l.take (k+1))=yz (l.take k)++uh x:=by rw[Yp l k x h,Yt,Od]
theorem Ya(l:List jI):(lJ l).size=8+24*l.length:=by unfold lJ;rw[kP,qL,tw,QQ]
theorem rN(l:List jI):(tbB l).size=12+24*l.length:=by unfold tbB;rw[ld,Ya];omega
theorem Ye(l:List jI):(tbB l).data.toList=um l.length++(yz l++yi (lJ l).data.toList):=by
 unfold tbB;rw[rZ];unfold lJ;rw[tE,qh]
theorem Yi{x:jI}(h:mayE x=true):(vg x).data.toList=uh x:=by unfold vg;rw[qV h,Yc]
theorem Zq{l:List jI}:uq l=true↔uZ l=true/\∀x∈l,mayE x=true:=by unfold uq;rw[Bool.and_eq_true,List.all_eq_true]
theorem Oh{l:List jI}(h:uZ l=false):uq l=false:=by unfold uq;rw[h];rfl
theorem Ol{l:List jI}{x:jI}(a:x∈l)(h:mayE x=false):uq l=false:=by
 cases e:uq l with
 | false=>rfl
 | true=>rw[(Zq.1 e).2 x a]at h;cases h
theorem Yo{l:List jI}(h:uq l=false):tbS l=ByteArray.empty/\tbE l=2:=by unfold tbS tbE;rw[h];exact⟨rfl,rfl⟩
theorem Zx{l:List jI}(h:uq l=true):tbS l=tbB l/\tbE l=0:=by unfold tbS tbE;rw[h];exact⟨rfl,rfl⟩
def yO(s:Tw)(i:Nat):Tw:=s.extract (8+24*i) (32+24*i)
def uH(s:Tw)(n:Nat):List jI:=(List.range n).map fun i=>enG (yO s i)
def tbN(s:Tw):Nat:=jz (s.extract 4 8)
def uJ(s:Tw):Bool:=decide (8<=s.size/\s.extract 0 4=bs mK/\tbN s<=89478484/\s.size=12+24*tbN s/\yw s=true/\(∀i,i<tbN s->vi (yO s i)=true)/\uZ (uH s (tbN s))=true)
def tgL(s:Tw):List jI:=if uJ s=true then uH s (tbN s) else []
def tgE(s:Tw):Int:=if uJ s=true then 0 else 90
theorem mV{s:Tw}:uJ s=true↔(8<=s.size/\s.extract 0 4=bs mK/\tbN s<=89478484/\s.size=12+24*tbN s/\yw s=true/\(∀i,i<tbN s->vi (yO s i)=true)/\uZ (uH s (tbN s))=true):=by unfold uJ;exact decide_eq_true_iff
theorem Zz{s:Tw}(h:uJ s=false):tgL s=[]/\tgE s=90:=by unfold tgL tgE;rw[h];exact⟨rfl,rfl⟩
theorem rO{s:Tw}(h:uJ s=true):tgL s=uH s (tbN s)/\tgE s=0:=by unfold tgL tgE;rw[h];exact⟨rfl,rfl⟩
theorem rP(s:Tw)(n:Nat):(uH s n).length=n:=by unfold uH;rw[qq,List.length_range]
theorem Yw(s:Tw){n i:Nat}(h:i<n):(uH s n)[i]? = some (enG (yO s i)):=by unfold uH;rw[qv,List.getElem?_range h];rfl
theorem Om(s:Tw)(i:Nat):(yO s i).data.toList=(s.data.toList.drop (8+24*i)).take 24:=by unfold yO;rw[fG,show 32+24*i-(8+24*i)=24 by omega]
theorem On(s:Tw){n:Nat}(h:∀i,i<n->vi (yO s i)=true):∀x∈uH s n,mayE x=true:=by
 intro x a;unfold uH at a;obtain⟨i,b,rfl⟩:=qP.1 a;exact(Ov (h i (List.mem_range.1 b))).1
theorem Ot(n:Nat)(h:n<4294967296):un (be 4 n)=n:=by
 have p:(256:Nat) ^ 4=4294967296:=by decide
 rw[dH,p,Nat.mod_eq_of_lt h]
theorem Oa{s:Tw}{l:List UInt8}(h:s.data.toList=l)(a:l.length=4):jz s=un l:=by unfold jz;rw[h,qm (by omega)]
theorem Oe(l:List jI)(b:l.length<4294967296):(tbB l).extract 0 4=bs mK/\tbN (tbB l)=l.length:=by
 have e:=Ye l;have a:mK.length=4:=rfl;constructor
 ·rw[bS,e];unfold um;rw[List.drop_zero,qh,List.take_left' (by exact a)]
 ·unfold tbN;rw[Oa (l:=be 4 l.length) _ (je _ _),Ot _ b];rw[fG,e];unfold um;rw[qh,List.drop_left' a,List.take_left' (je 4 l.length)]
theorem UQ{l:List jI}{i:Nat}{x:jI}(h:l[i]? = some x)(f:mayE x=true):yO (tbB l) i=vg x:=by
 have d:i<l.length:=(qO.1 h).1
 have e:(yO (tbB l) i).data.toList=uh x:=by
  rw[Om,Ye,<-List.drop_drop,List.drop_left' (tw _)]
  have a:l=l.take i++(x::l.drop (i+1)):=by
   have:=(qO.1 h).2;rw[<-this,<-xZ d,qp]
  have b:yz l=yz (l.take i)++(uh x++yz (l.drop (i+1))):=by
   conv=>lhs;rw[a]
   rw[Yt,Z9]
  have c:(yz (l.take i)).length=24*i:=by rw[QQ,qT];omega
  rw[b,qh,List.drop_left' c,qh,List.take_left' (ZP x)]
 rw[<-cr (yO (tbB l) i),e,<-Yi f,cr]
theorem Oi{l:List jI}(q:l.length<=89478484)(o:∀x∈l,ks x)(r:uq l=true):uJ (tbB l)=true/\uH (tbB l) l.length=l/\tgL (tbB l)=l:=by
 obtain⟨t,f⟩:=Zq.1 r;obtain⟨p,b⟩:=Oe l (by omega)
 have s:∀i,i<l.length->vi (yO (tbB l) i)=true:=fun i j=>by
  have d:=qE j;have a:=List.getElem_mem j;rw[UQ d (f _ a),Oj (o _ a),f _ a]
 have g:uH (tbB l) l.length=l:=by
  apply xJ;intro i;rcases qd i l.length with c|c
  ·have d:=qE c;have a:=List.getElem_mem c;rw[Yw _ c,UQ d (f _ a),(Yd (o _ a) (f _ a)).2,d]
  ·rw[xX c,xX (by rw[rP];exact c)]
 have n:uJ (tbB l)=true:=mV.2 ⟨by rw[rN];omega,p,by rw[b];exact q,by rw[rN,b],MN _,by rw[b];exact s,by rw[b,g];exact t⟩;exact⟨n,g,by rw[(rO n).1,b,g]⟩
def fE(n:Int):Int:=if n<0∨89478484<n then 0 else 12+24*n
def oP(n:Int):Int:=if n<0∨89478484<n then 0 else 8+24*n
theorem QX{n:Int}(h:n<0∨89478484<n):fE n=0/\oP n=0:=by unfold fE oP;rw[qV h,qV h];exact⟨rfl,rfl⟩
theorem Zj{n:Int}(h:¬(n<0∨89478484<n)):fE n=12+24*n/\oP n=8+24*n:=by unfold fE oP;rw[qZ h,qZ h];exact⟨rfl,rfl⟩
theorem oR{n:Nat}(h:n<=89478484):fE (n:Nat)=((12+24*n:Nat):Int)/\oP (n:Nat)=((8+24*n:Nat):Int):=by
 obtain⟨a,b⟩:=Zj (n:=(n:Nat)) (by omega);rw[a,b];exact⟨by omega,by omega⟩
theorem UX(n:Int)(w:World):
  Calls prog 261 #[n] w (X0 (.int .i64 (fE n)) w):=by
 by_cases h:n<0
 ·rw[(QX (qX h)).1];go_enter func261,ntmps261;go_wp2;go_ret;exact⟨rfl,rfl⟩
 ·by_cases a:89478484<n
  ·rw[(QX (qY a)).1];go_enter func261,ntmps261;go_wp2;go_ret;exact⟨rfl,rfl⟩
  ·rw[(Zj (n:=n) (by omega)).1];obtain⟨k,rfl⟩:∃k:Nat,n=k:=⟨n.toNat,by omega⟩
   go_enter func261,ntmps261;go_wp2;go_ret;exact⟨my (by omega),rfl⟩
theorem QZ(n:Int)(w:World):
  Calls prog 223 #[n] w (X0 (.int .i64 (oP n)) w):=by
 have c:=qQ (UX n w);by_cases h:n<0∨89478484<n
 ·obtain⟨a,b⟩:=QX h;rw[a]at c;rw[b];clear h a b;go_enter func223,ntmps223;go_wp2_with fail;refine X5 c.out ?_;go_wp2;go_ret;exact⟨rfl,rfl⟩
 ·obtain⟨a,b⟩:=Zj h;obtain⟨k,rfl⟩:∃k:Nat,n=k:=⟨n.toNat,by omega⟩
  obtain⟨z,d⟩:∃z:Nat,z=12+24*k:=⟨_,rfl⟩
  rw[a,show(12:Int)+24*(k:Nat)=(z:Nat) by omega]at c;rw[b];have g:((z:Int)==0)=false:=qg.2 (by omega);have f:k<=89478484:=by omega
  clear h a b d;go_enter func223,ntmps223;go_wp2_with fail;refine X5 c.out ?_;go_wp2;go_ret;exact⟨my (by omega),rfl⟩
def mY(s:Tw):Bool:=decide (8<=s.size/\s.extract 0 4=bs mK)
def nU(s:Tw):Int:=if mY s=true then(tbN s:Nat) else 0
theorem Oo: (⟨#[112,116,97,98]⟩:Tw)=bs mK:=rfl
theorem Ow(s:Tw)(a:8<=s.size):cE s ⟨#[112,116,97,98]⟩=mY s:=by
 unfold cE mY;rw[Oo,decide_eq_decide];have:(bs mK).size=4:=rfl;rw[this];exact⟨fun h=>⟨a,h.2⟩,fun h=>⟨by omega,h.2⟩⟩
theorem PQ(s:Tw)(w:World)(c:s.size<=maxLen):
  Calls prog 268 #[s] w (X0 (.tuple #[.int .i64 (nU s),.bool (mY s)]) w):=by
 by_cases j:s.size<8
 ·have b:mY s=false:=qA (fun h=>by omega);have g:nU s=0:=by unfold nU;rw[b];rfl
  rw[b,g];have q:decide ((s.size:Int)<8)=true:=qB (by omega);clear b g;unfold maxLen at c;go_enter func268,ntmps268;go_wp2;go_ret2;exact⟨rfl,rfl⟩
 ·have a:=fun W=>XB s ⟨#[112,116,97,98]⟩ W c (by decide)
  rw[Ow s (by omega)]at a;have d:=qQ fun W=>cI (s.extract 4 8) W (by unfold maxLen at*;rw[qk];omega)
  have i:jz (s.extract 4 8)=tbN s:=rfl
  have t:tbN s<4294967296:=by
   have h:=fe ((s.extract 4 8).data.toList.take 8);have p:(256:Nat) ^ 4=4294967296:=(by decide);have o:((s.extract 4 8).data.toList.take 8).length<=4:=(by rw[qT,gK,qk];omega);exact qS h (by rw[<-p];exact Nat.pow_le_pow_right (by decide) o)
  unfold nU;rw[i]at d;clear i;have q:decide ((s.size:Int)<8)=false:=qA (by omega);have u:(8:Int)<=(s.size:Int):=by omega
  have y:8<=s.size:=by omega
  generalize tbN s=n at*;unfold maxLen at c;have f:=qQ a;clear a j;cases e:mY s
  all_goals
   rw[e]at f;clear e;go_enter func268,ntmps268;go_wp2_with fail;refine(f.out _).mono ?_;rintro e r⟨rfl,rfl⟩
   first
   | (go_wp2
      go_ret2;exact⟨rfl,rfl⟩)
   | (go_wp2_with fail
      refine(d.out _).mono ?_;rintro e r⟨rfl,rfl⟩;go_wp2;go_ret2;exact⟨rfl,rfl⟩)
end
section
def ptT(n:Int):Tw:=nmS 116 n
def ptB(n:Int):Tw:=nmS 98 n
theorem UZ(c:UInt8)(n:Int):(nmS c n).size<=7:=by
 unfold nmS;split
 ·rw[kP,qu,oB];omega
 ·exact qI _
theorem oS(n:Int):(ptT n).size<=maxLen:=qR (UZ 116 n) (by decide)
theorem QJ(n:Int):(ptB n).size<=maxLen:=qR (UZ 98 n) (by decide)
theorem PX{n:Nat}(h:n<=999999):vY (ptT n)=true/\vY (ptB n)=true:=by
 unfold ptT ptB vY;rw[oE h,oE h];decide
theorem Zk{n:Nat}(h:n<=999999):ptT n≠ByteArray.empty:=by
 intro e;have:=oE (c:=116) h;rw[show nmS 116 (n:Nat)=ByteArray.empty from e]at this;exact absurd this (by decide)
theorem nG{n m:Nat}(h:n<=999999)(k:m<=999999):ptB n≠ptT m:=by
 unfold ptB ptT;rw[fW h,fW k];intro e;have a:=congrArg (fun s:Tw=>s.data.toList.head?) e;simp only[dbs,List.head?_cons]at a;exact absurd a (by decide)
def kG(D:jL)(n:Int)(l:List jI)(t:Tw):Nat × jL :=
 if ptT n=ByteArray.empty∨uq l=false then(2,D)
 else if D.down=true then(61,D)
 else if (D.cap:Int)-(j4 D.l:Nat)-(t.size:Nat)-((tbB l).size:Nat)<6000 then(60,D)
 else if (kQ D (ptB n) t).1≠0 then kQ D (ptB n) t
 else if (kQ (kQ D (ptB n) t).2 (ptT n) (tbB l)).1≠0 then((kQ (kQ D (ptB n) t).2 (ptT n) (tbB l)).1,(jh (kQ (kQ D (ptB n) t).2 (ptT n) (tbB l)).2 (ptB n)).2)
 else kQ (kQ D (ptB n) t).2 (ptT n) (tbB l)
def cO(r:Nat):Bool:=decide (r=0)||decide (r=4)
def uC(D:jL)(n:Int):Nat × jL :=
 if cO (jh D (ptT n)).1=false then jh D (ptT n)
 else if cO (jh (jh D (ptT n)).2 (ptB n)).1=false then jh (jh D (ptT n)).2 (ptB n)
 else(0,(jh (jh D (ptT n)).2 (ptB n)).2)
def bu(t:Tw)(l:List jI):Bool:=l.all fun x=>gV t x.h
theorem QK{t:Tw}{l:List jI}:bu t l=true↔∀x∈l,gV t x.h=true:=by unfold bu;rw[List.all_eq_true]
theorem PZ(l:List jI):bu ByteArray.empty l=true:=QK.2 fun x _=>Vk (Xp (by decide)) _
def ldF(D:jL)(n:Int)(l:List jI):Tw:=if (rdW D (ptB n)).2.1=0/\bu (rdW D (ptB n)).1 l=true then(rdW D (ptB n)).1 else ByteArray.empty
theorem UJ(D:jL)(n:Int)(l:List jI):bu (ldF D n l) l=true:=by
 unfold ldF;split
 ·rename_i h;exact h.2
 ·exact PZ l
def kS(D:jL)(n:Int):Nat:=if D.down=true then 61 else if (rdW D (ptT n)).2.1≠0 then 90 else if uJ (rdW D (ptT n)).1=false then 90 else 0
def uI(D:jL)(n:Int):jL:=if D.down=true then D else if (rdW D (ptT n)).2.1≠0 then(rdW D (ptT n)).2.2 else if uJ (rdW D (ptT n)).1=false then(rdW D (ptT n)).2.2 else(rdW (rdW D (ptT n)).2.2 (ptB n)).2.2
def QV(e:Nat):Nat:=if e=0 then 0 else if e=61 then 61 else 90
def QY(D:jL)(n:Int):Nat:=QV (j9 D (ptT n)).2
def dT(l:List jI)(t:Tw)(h:Nat):Bool:=decide (0<l.length)&&gV t h
def pcP(s:Tw)(i:Nat):Tw:=s.extract (24*i) (24*i+24)
def okP(s:Tw)(m:Nat):Bool:=(List.range m).all fun i=>vi (pcP s i)
def lK(s:Tw)(m:Nat):List jI:=(List.range m).map fun i=>enG (pcP s i)
theorem UK{s:Tw}{m:Nat}:okP s m=true↔∀i,i<m->vi (pcP s i)=true:=by unfold okP;rw[List.all_eq_true];simp
theorem PJ(s:Tw)(m:Nat):(lK s m).length=m:=by unfold lK;rw[qq,List.length_range]
def lV(s:Tw):Tw:=bs (List.replicate 8 0++s.data.toList)
theorem UV(s:Tw)(i:Nat):yO (lV s) i=pcP s i:=by
 unfold yO pcP lV;rw[bS,bS,tE,show 8+24*i=(List.replicate 8 (0:UInt8)).length+24*i by rw[List.length_replicate],List.drop_length_add_append,show 32+24*i-((List.replicate 8 (0:UInt8)).length+24*i)=24 by rw[List.length_replicate];omega,show 24*i+24-24*i=24 by omega]
theorem PV(s:Tw)(m:Nat):uH (lV s) m=lK s m:=by
 unfold uH lK;simp only[UV]
theorem UY{s:Tw}{lo hi i:Nat}(a:i<hi-lo):pcP (s.extract (8+24*lo) (8+24*hi)) i=yO s (lo+i):=by
 unfold pcP yO
 rw[bS,bS s,bS s,tE,List.drop_take,List.take_take,List.drop_drop,show 24*i+24-24*i=24 by omega,show 32+24*(lo+i)-(8+24*(lo+i))=24 by omega,
  show 8+24*lo+24*i=8+24*(lo+i) by omega,Nat.min_eq_left (by omega)]
theorem PY{s:Tw}(h:uJ s=true){lo hi:Nat}(a:hi<=(tgL s).length):okP (s.extract (8+24*lo) (8+24*hi)) (hi-lo)=true/\lK (s.extract (8+24*lo) (8+24*hi)) (hi-lo)=((tgL s).drop lo).take (hi-lo):=by
 obtain⟨f,g,j,n,o,b,p⟩:=mV.1 h;rw[(rO h).1]at a ⊢;rw[rP]at a;refine⟨UK.2 fun i d=>by rw[UY d];exact b _ (by omega), ?_⟩;apply xJ;intro i;unfold lK;rw[qv,List.getElem?_take,List.getElem?_drop];by_cases c:i<hi-lo
 ·rw[qV c,List.getElem?_range c,Yw _ (by omega)];show some (enG (pcP _ i))=_;rw[UY c]
 ·rw[qZ c,xX (by rw[List.length_range];omega)];rfl
theorem UU{s:Tw}(h:uJ s=true):kY (tgL s)/\(∀x∈tgL s,mayE x=true)/\s.size=12+24*(tgL s).length:=by
 obtain⟨d,f,g,a,i,b,c⟩:=mV.1 h;rw[(rO h).1,rP];exact⟨Yl c,On s b,a⟩
theorem PU(s:Tw):∀x:Tw,ks (enG x):=by
 intro x;unfold enG;split
 ·rename_i h;have:=of_decide_eq_true h;exact⟨p9 _,by simp only;omega,by simp only;omega,by simp only;omega,by simp only;omega⟩
 ·exact⟨by decide,by decide,by decide,by decide,by decide⟩
theorem UG(s:Tw):∀x∈tgL s,ks x:=by
 intro x a;unfold tgL uH at a;split at a
 ·obtain⟨i,_,rfl⟩:=qP.1 a;exact PU s _
 ·cases a
theorem PG{q:jI->Bool}{l:List jI}{lo hi:Nat}(h:∀(i:Nat) (x:jI),l[i]? = some x->q x=true->lo<=i/\i<hi):l.filter q=((l.drop lo).take (hi-lo)).filter q:=by
 have e:l=l.take lo++((l.drop lo).take (hi-lo)++(l.drop lo).drop (hi-lo)):=by rw[qp,qp]
 have d:(l.take lo).filter q=[]:=List.filter_eq_nil_iff.2 fun y c b=>by
  obtain⟨j,a⟩:=ql c;have g:=(qO.1 a).1;rw[qT]at g;rw[List.getElem?_take,qV (by omega)]at a;have:=(h j y a b).1;omega
 have f:((l.drop lo).drop (hi-lo)).filter q=[]:=List.filter_eq_nil_iff.2 fun y c b=>by
  obtain⟨j,a⟩:=ql c;rw[List.getElem?_drop,List.getElem?_drop]at a;have:=(h _ y a b).2;omega
 conv=>lhs;rw[e]
 rw[List.filter_append,List.filter_append,d,f,List.nil_append,List.append_nil]
theorem Zv{l:List jI}(h:kY l)(lo m:Nat):kY ((l.drop lo).take m):=List.Pairwise.take (List.Pairwise.drop h)
theorem UW{l:List jI}{lo m i:Nat}:((l.drop lo).take m)[i]? = if i<m then l[lo+i]? else none:=by rw[List.getElem?_take,List.getElem?_drop]
theorem UA{l:List jI}{lo m:Nat}{x:jI}(h:x∈(l.drop lo).take m):x∈l:=List.mem_of_mem_drop (List.mem_of_mem_take h)
theorem PW{y:jI}{h:Nat}{v:Int}(a:mayE y=true):jm y ⟨h,v,0⟩=gP h v y:=by
 have:=of_decide_eq_true a;unfold jm gP;rw[decide_eq_decide];simp only;omega
theorem PA(h:Nat)(v:Int)(y:jI):gP h (v+1) y=uF h v y:=by
 unfold gP uF;rw[decide_eq_decide];omega
theorem Zy{l:List jI}(a:∀x∈l,mayE x=true)(h:Nat)(v:Int):l.countP (fun y=>jm y ⟨h,v,0⟩)=l.countP (gP h v):=List.countP_congr fun y b=>by rw[PW (a y b)]
theorem UB(l:List jI)(h:Nat)(v:Int):l.countP (gP h (v+1))=l.countP (uF h v):=List.countP_congr fun y a=>by rw[PA]
theorem UC{l:List jI}(d:kY l){h:Nat}{a b:Int}{lo hi:Nat}(g:lo<=l.countP (gP h a))(j:l.countP (uF h b)<=hi):vD ((l.drop lo).take (hi-lo)) h a b=vD l h a b:=by
 unfold vD;refine(PG fun i x f c=>?_).symm;have c:=of_decide_eq_true c;have c1:=nY (Yr h a) d i x f;have c2:=nY (Z4 h b) d i x f;constructor
 ·have:gP h a x=false:=qA (by omega);rw[this]at c1;have:=of_decide_eq_false c1.symm;omega
 ·have:uF h b x=true:=qB (by omega);rw[this]at c2;have:=of_decide_eq_true c2.symm;omega
theorem PB{l:List jI}(g:kY l){h:Nat}{a b:Int}{lo hi:Nat}(c:lo<=l.countP (gP h a))(d:l.countP (uF h b)<=hi)(f:hi<=lo):vD l h a b=[]:=by
 rw[<-UC g c d,Nat.sub_eq_zero_of_le f];rfl
theorem uB.zy{q:jI->Bool}{l:List jI}{k lo hi:Nat}(h:uB q l k)(b:lo<=k):uB q ((l.drop lo).take (hi-lo)) (k-lo):=by
 intro i x a;rw[UW]at a;split at a
 ·rw[h _ x a,decide_eq_decide];omega
 ·cases a
theorem PC{l:List jI}(c:kY l){h:Nat}{b:Int}{lo hi:Nat}(i:lo-1<=l.countP (uF h b)-1)(j:lo<=l.countP (uF h b))(n:l.countP (uF h b)<=hi)(o:hi<=l.length):fD ((l.drop (lo-1)).take (hi-(lo-1))) h b=fD l h b:=by
 have a:=nY (Z4 h b) c;generalize l.countP (uF h b)=K at*;cases K with
 | zero =>
   have hw:=uB.zy (lo:=lo-1) (hi:=hi) a (by omega);rw[show 0-(lo-1)=0 by omega]at hw;rw[Z8 a,Z8 hw]
 | succ k =>
   have hw:=uB.zy (lo:=lo-1) (hi:=hi) a (by omega);have g:k<l.length:=(by omega);have d:l[k]? = some l[k]:=qE g;have f:((l.drop (lo-1)).take (hi-(lo-1)))[k-(lo-1)]? = some l[k]:=(by rw[UW,qV (by omega),show lo-1+(k-(lo-1))=k by omega];exact d);rw[show k+1-(lo-1)=k-(lo-1)+1 by omega]at hw;by_cases e:(l[k]).h=h
   ·rw[Z6 a d e,Z6 hw f e]
   ·rw[Z7 c a d e,Z7 (Zv c _ _) hw f e]
theorem UD{t:Tw}{l:List jI}(n:bu t l=true){h:Nat}(f:dT l t h=false)(a b:Int):vD l h a b=[]/\fD l h b=none:=by
 have g:∀x∈l,¬x.h=h:=fun x d e=>by
  have i:=QK.1 n x d;have j:0<l.length:=List.length_pos_of_mem d;unfold dT at f;rw[qB j,<-e,i]at f;cases f
 exact⟨List.filter_eq_nil_iff.2 fun x d o=>g x d (of_decide_eq_true o).1,Z5 fun x d=>qA fun c=>g x d c.1⟩
def uL(l:List jI):List Nat:=Lib.compactUpTo (l.map jI.h).toArray (l.map jI.h).toArray.size
def QU(l:List jI)(p:Nat):Tw:=fo (bs (dL (uL l) (p:Nat) (480*(ct (uL l).length (p:Nat):Nat):Int))) (p:Nat)
def bV(l:List jI)(r:Nat)(t:Tw):Prop:=∃p,pf r p/\t=QU l p
theorem UE(l:List jI):(uL l).length<=l.length:=by
 unfold uL Lib.compactUpTo;rw[qq];refine qR (List.length_filter_le _ _) ?_;rw[List.length_range,List.size_toArray,qq];exact qK _
theorem PD{l:List jI}(f:∀x∈l,ks x):∀z∈uL l,z<18446744073709551616:=by
 intro z b;unfold uL Lib.compactUpTo at b;obtain⟨j,d,rfl⟩:=qP.1 b;have a:=List.mem_range.1 (qo.1 d).1
 have e:(l.map jI.h).toArray[j]! = (l.map jI.h)[j]'(by simpa using a):=by
  rw[getElem!_pos _ j a];simp
 rw[e];obtain⟨x,g,c⟩:=qP.1 (List.getElem_mem (l:=l.map jI.h) (n:=j) (by simpa using a));rw[<-c];exact(f x g).h
theorem UF{r p:Nat}(h:pf r p):1<=p/\p<=16:=by
 unfold pf at h;split at h
 ·omega
 ·exact⟨h.1,h.2.1⟩
theorem UH{n:Nat}{k:Int}(b:n<=10000):1<=ct (n:Nat) k/\480*ct (n:Nat) k<=24*n+960:=by
 have a:=VB k;have e:cN (n:Nat)=n:=by unfold cN;split;omega;split<;>omega
 unfold ct;rw[e];have c:n*cK k<=n*16:=Nat.mul_le_mul_left _ a;unfold oZ tK;generalize n*cK k=q at*;split<;>omega
theorem rR{l:List jI}{r:Nat}{t:Tw}(f:l.length<=10000)(h:bV l r t):t.size<=256+4*l.length:=by
 obtain⟨p,b,rfl⟩:=h;obtain⟨g,i⟩:=UF b;have d:=UE l;have c:=UH (n:=(uL l).length) (k:=(p:Nat)) (by omega);unfold QU;generalize (uL l).length=m at*;by_cases a:bQ (bs (dL (uL l) (p:Nat) (480*(ct (m:Nat) (p:Nat):Nat):Int))).size (p:Nat)=true
 ·rw[Mz a,show(480*(ct (m:Nat) (p:Nat):Nat):Int)=((8*(60*ct (m:Nat) (p:Nat)):Nat):Int) by omega,Mj _ _ _ (by omega) (by omega)];omega
 ·rw[Vy (Bool.eq_false_iff.2 a)];show 0<=_;omega
end
section
open Go.RowKit
theorem PE(x y:jI):((((x.h:Int)==(y.h:Int))&&(x.v==y.v))&&(x.p==y.p))=decide (x=y):=by
 rw[Bool.eq_iff_iff,Bool.and_eq_true,Bool.and_eq_true,beq_iff_eq,beq_iff_eq,beq_iff_eq,decide_eq_true_iff];constructor
 ·rintro ⟨⟨c,a⟩,b⟩;exact oM (by omega) a b
 ·rintro rfl;exact⟨⟨rfl,rfl⟩,rfl⟩
theorem PF(x y:jI)(w:World):(Op.equalIn 10000 117 (ki x) (ki y)).run prog w=.ok (decide (x=y)) w:=by
 rw[show(10000:Nat)=9998+1+1 from rfl,run_equalIn_agg w 9999 117 _ _ Tryz.underlying117 Tryz.stoodInHeld117];have e:=PE x y;by_cases a:(x.h:Int)=(y.h:Int)
 ·by_cases b:x.v=y.v
  ·by_cases c:x.p=y.p
   ·have:x=y:=oM (by omega) b c;rw[qB this];simp[Op.eqFields,go_sem,a,b,c]
   ·have:¬x=y:=fun h=>c (by rw[h])
    rw[qA this];simp[Op.eqFields,go_sem,a,b,c]
  ·have:¬x=y:=fun h=>b (by rw[h])
   rw[qA this];simp[Op.eqFields,go_sem,a,b]
 ·have:¬x=y:=fun h=>a (by rw[h])
  rw[qA this];simp[Op.eqFields,go_sem,a]
theorem UI(x y:jI)(w:World):(binOp .eql 117 (ki x) (ki y)).run prog w=.ok (.bool (decide (x=y))) w:=by
 rw[run_eql_struct,PF];rfl
theorem PH(w:World)(o a:Obj):Below w.1.size w ((w.alloc o).alloc a):=((qG _ _).alloc (qK _) _).alloc (by simp) _
theorem oT(x y:jI)(w:World):
  Calls prog 172 #[ki x,ki y] w (X3 (.bool (jm x y)) w):=by
 obtain⟨h,v,p⟩:=x;obtain⟨a,v',d⟩:=y;have b:=PH w (.cells #[.int .u64 (h:Nat),v,p] 117) (.cells #[.int .u64 (a:Nat),v',d] 117);have e:=mZ (x:=⟨h,v,p⟩) (y:=⟨a,v',d⟩);simp only at e;generalize jm ⟨h,v,p⟩ ⟨a,v',d⟩=q at*;by_cases c:h=a
 ·subst c;by_cases c:v=v'
  ·subst c;by_cases c:p<d
   ·obtain rfl:q=true:=e.2 (by omega);clear e;go_enter func172,ntmps172;go_wp2;go_ret;exact⟨rfl,b⟩
   ·obtain rfl:q=false:=Bool.eq_false_iff.2 (fun t=>by have:=e.1 t;omega);clear e;go_enter func172,ntmps172;go_wp2;go_ret;exact⟨rfl,b⟩
  ·by_cases c2:v<v'
   ·obtain rfl:q=true:=e.2 (by omega);clear e;go_enter func172,ntmps172;go_wp2;go_ret;exact⟨rfl,b⟩
   ·obtain rfl:q=false:=Bool.eq_false_iff.2 (fun t=>by have:=e.1 t;omega);clear e;go_enter func172,ntmps172;go_wp2;go_ret;exact⟨rfl,b⟩
 ·by_cases c2:h<a
  ·obtain rfl:q=true:=e.2 (by omega);clear e;have f:((h:Int) != (a:Int))=true:=(by simp;omega);have g:decide ((h:Int)<(a:Int))=true:=qB (by omega);go_enter func172,ntmps172;go_wp2;go_ret;exact⟨rfl,b⟩
  ·obtain rfl:q=false:=Bool.eq_false_iff.2 (fun t=>by have:=e.1 t;omega);clear e;have f:((h:Int) != (a:Int))=true:=(by simp;omega);have g:decide ((h:Int)<(a:Int))=false:=qA (by omega);go_enter func172,ntmps172;go_wp2;go_ret;exact⟨rfl,b⟩
theorem Zu(x:jI)(w:World):
  Calls prog 204 #[ki x] w (X3 (.bool (mayE x)) w):=by
 obtain⟨h,v,p⟩:=x;have a:=(qG w.1.size w).alloc (qK _) (.cells #[.int .u64 (h:Nat),v,p] 117);have e:mayE ⟨h,v,p⟩=decide (0<=v/\0<=p):=rfl;rw[e];clear e;by_cases c:0<=v
 ·by_cases c2:0<=p
  ·rw[qB ⟨c,c2⟩];go_enter func204,ntmps204;go_wp2;go_ret;exact⟨rfl,a⟩
  ·rw[qA (fun x=>c2 x.2)];go_enter func204,ntmps204;go_wp2;go_ret;exact⟨rfl,a⟩
 ·rw[qA (fun x=>c x.1)];go_enter func204,ntmps204;go_wp2;go_ret;exact⟨rfl,a⟩
end
section
open Go.RowKit Go.Shelf
theorem kB.form{w:World}{v:Value}{l:List jI}(h:kB w v l):∃A off d,v=.slice A l.length d/\l.length<=maxLen /\
  ∀i x,l[i]? = some x->∃b,A=some ⟨b,off,none⟩/\b<w.1.size/\w.cell? ⟨b,off+i*3,none⟩=some (.int .u64 (x.h:Nat))/\w.cell? ⟨b,off+i*3+1,none⟩=some (.int .i64 x.v)/\w.cell? ⟨b,off+i*3+2,none⟩=some (.int .i64 x.p):=by
 rcases h with⟨rfl,a,c,rfl⟩|⟨b,off,d,rfl,n,o,j,f⟩
 ·exact⟨a,0,c,rfl,qI _,fun i x h=>by simp at h⟩
 ·exact⟨some ⟨b,off,none⟩,off,d,rfl,by omega,fun i x g=>⟨b,rfl,j,f i x g 0 _ rfl,f i x g 1 _ rfl,f i x g 2 _ rfl⟩⟩
def PI(q:jI->Bool)(l:List jI)(w:World)(e:Ending)(w':World):Prop:=∃k:Nat,k<=l.length/\e=.returned (.int .i64 (k:Nat))/\(∀K,K<=l.length->uB q l K->k=K)/\Below w.1.size w w'
theorem PL(a b:Nat)(h:a<=b):((b:Int)-(a:Int)).tdiv 2=(((b-a)/2:Nat):Int):=by
 have e:(b:Int)-(a:Int)=((b-a:Nat):Int):=by omega
 rw[e];rfl
theorem PM(a b:Nat)(h:a<=b):((b-a:Nat):Int)/2=(((b-a)/2:Nat):Int):=rfl
theorem UL(f:FuncId)(g:Nat)(q:jI->Bool)(v:Value)(l:List jI)(w:World)(X:kB w v l)(hn:l.length<=1000000)(hE:Enters prog f)
  (S:∀(x:jI) (W:World),Below w.1.size w W->Calls prog f #[ki x,.pointer (some ⟨g,0,none⟩)] W fun e W'=>e=.returned (.bool (q x))/\Below W.1.size W W'):
  Calls prog 255 #[v,.func (.func f) #[] #[.pointer (some ⟨g,0,none⟩)]] w (PI q l w):=by
 obtain⟨A,off,ab,rfl,-,T⟩:=X.form;have Y:=qQ S;have HL:=qQ T;unfold Enters at hE;obtain⟨n,C⟩:∃n,n=l.length:=⟨_,rfl⟩
 have s:=qQ C;rw[<-C]at hn ⊢;clear X S T C;go_enter func255,ntmps255;go_wp2;go_step3;go_wp2;go_step3;go_wp2;go_loopw [5,6] (fun G B wr=>∃a b:Nat,a<=b/\b<=n/\G=.int .i64 a/\B=.int .i64 b/\(∀K,K<=n->uB q l K->a<=K/\K<=b)/\Below w.1.size w wr) (fun G B _=>(intOf B).toNat-(intOf G).toNat)
 case atStart=>exact⟨0,n,qI _,qK _,rfl,rfl,fun K h _=>⟨qI _,h⟩,qG _ _⟩
 case round =>
  obtain⟨a,b,O,R,rfl,rfl,N,i⟩:=hrel;have r:=qQ N;clear N;have hm:=PL a b O;have aa:=PM a b O;by_cases ad:a<b
  ·have t:((a:Int)==(b:Int))=false:=qg.2 (by omega);obtain⟨d,U⟩:∃d,d=(b-a)/2:=⟨_,rfl⟩
   rw[<-U]at hm aa;have ae:a+d<b:=(by omega);have ac:(d:Int)<=1000000:=(by omega);obtain⟨x,F⟩:∃x,l[a+d]? = some x:=⟨_,qE (by rw[<-s.out];omega)⟩
   have I:=qQ F;obtain⟨u,rfl,y,J,L,M⟩:=HL.out (a+d) _ F;have c0:=(i.cell (p:=⟨u,off+(a+d)*3,none⟩) y).trans J;have c1:=(i.cell (p:=⟨u,off+(a+d)*3+1,none⟩) y).trans L;have c2:=(i.cell (p:=⟨u,off+(a+d)*3+2,none⟩) y).trans M;clear J L M F U;have z:=Y.out x wr i;cases D:q x
   all_goals
    rw[D]at z;have Z:=qQ z;have H:=qQ D;clear D z;go_wp2_with fail;refine KG Z.out fun w2 P=>?_;have Q:=bj i P;clear i P c0 c1 c2;go_wp2;go_roundw
    case rel =>
     first
     | exact⟨a+d+1,b,by omega,R,by go_num,rfl,fun K j c=>⟨by have o:=c (a+d) x I.out;rw[H.out]at o;have:=of_decide_eq_true o.symm;omega,(r.out K j c).2⟩,Q⟩
     | exact⟨a,a+d,by omega,by omega,rfl,by go_num,fun K j c=>⟨(r.out K j c).1,by have o:=c (a+d) x I.out;rw[H.out]at o;have:=of_decide_eq_false o.symm;omega⟩,Q⟩
    case measure=>simp[intOf];omega
  ·obtain rfl:a=b:=(by omega);go_wp2;go_ret;exact⟨a,by rw[<-s.out];exact R,rfl,fun K j c=>by have:=r.out K (by rw[s.out];exact j) c;omega,i⟩
end
section
open Go.RowKit
def yj(l:List jI):List Value:=l.flatMap fZ
theorem o6: ∀l:List jI,(yj l).length=l.length*3
 | []=>rfl
 | x::l=>by
   unfold yj;rw[List.flatMap_cons,qL];have:=o6 l;unfold yj at this;rw[this,qu];show 3+_=_;omega
theorem nW: ∀(l:List jI) (i:Nat) (x:jI),l[i]? = some x->∀j,j<3->(yj l)[i*3+j]? = (fZ x)[j]?
 | [],i,x,h=>by simp at h
 | y::l,0,x,h=>by
   intro j a;obtain rfl:y=x:=(by simpa using h);unfold yj;rw[List.flatMap_cons,Nat.zero_mul,qe,List.getElem?_append_left (by exact a)]
 | y::l,i+1,x,h=>by
   intro j a;have b:l[i]? = some x:=(by simpa using h);have e:(i+1)*3+j=3+(i*3+j):=(by omega);have:=nW l i x b j a;unfold yj at*;rw[List.flatMap_cons,e,List.getElem?_append_right (by show 3<=_;omega)];show(l.flatMap fZ)[3+(i*3+j)-3]? = _;rw[Nat.add_sub_cancel_left];exact this
theorem PN{l:List jI}:∀u∈yj l,u.oneCell'=true:=by
 intro u b;unfold yj at b;obtain⟨f,_,a⟩:=xV.1 b;simp only[fZ,List.mem_cons,List.not_mem_nil,or_false]at a;rcases a with rfl|rfl|rfl<;>rfl
theorem UM(a b:List jI):yj (a++b)=yj a++yj b:=by unfold yj;rw[List.flatMap_append]
abbrev ju(w:World)(base:Nat)(v:Value)(l:List jI):Prop:=w.ownsRow base 117 3 v l.length (yj l)
theorem ju.xH{w:World}{base:Nat}{v:Value}{l:List jI}(h:ju w base v l):kB w v l:=by
 have b:=h;rcases h.2 with⟨a,n⟩|⟨g,f,t,a,y,o,s,r,A,B⟩
 ·exact qX ⟨xK.1 n,none,0,a⟩
 ·by_cases q:l=[]
  ·subst q;exact qX ⟨rfl,_,_,a⟩
  ·refine qY ⟨g,0,f,a,s,r,(qn.1 o).1,fun i x d j u c=>?_⟩;have z:i<l.length:=(qO.1 d).1;have p:j<3:=(by have:=(qO.1 c).1;exact this);rw[a]at b;rw[qe];exact(b.cellAt (i*3+j) (by omega)).trans ((nW l i x d j p).trans c)
theorem ju.below{w w':World}{base B:Nat}{v:Value}{l:List jI}(h:ju w base v l)(i:Below B w w')(f:w.1.size<=B):ju w' base v l:=by
 refine⟨h.1, ?_⟩;rcases h.2 with d|⟨g,b,c,o,j,a,r⟩
 ·exact qX d
 ·obtain⟨n,_⟩:=qn.1 a;exact qY ⟨g,b,c,o,j,(i.block g (qS n f)).trans a,r⟩
theorem ju.block{w:World}{base:Nat}{v:Value}{l:List jI}(h:ju w base v l):∀k,v.ownBlock=some k->base<=k:=by
 intro k a;rcases h.2 with⟨rfl,_⟩|⟨g,c,d,rfl,b,_⟩
 ·cases a
 ·cases a;exact b
theorem ju.nil(w:World)(base:Nat):ju w base (.slice none 0 0) []:=World.ownsRow_nil _ _ _ _
theorem Zg: (prog.info? 117).map (fun i=>(i.zero,i.size,i.bytes))=some (some (.agg #[.int .u64 0,.int .i64 0,.int .i64 0]),3,24):=by kernel_rfl
theorem kB.src{w:World}{v:Value}{l:List jI}(h:kB w v l):fX w 3 v l.length (yj l):=by
 refine⟨o6 l, ?_⟩;rcases h with⟨rfl,a,c,rfl⟩|⟨b,off,i,rfl,q,r,s,o⟩
 ·cases a with
  | none=>exact qX ⟨c,rfl,rfl⟩
  | some a=>exact qY ⟨a,c,rfl,fun j u d=>by cases d⟩
 ·refine qY ⟨⟨b,off,none⟩,i,rfl,fun j u d=>?_⟩;have t:j<l.length*3:=by have:=(qO.1 d).1;rw[o6]at this;exact this
  have p:j/3<l.length:=by omega
  have g:l[j/3]? = some l[j/3]:=qE p;have e:j/3*3+j%3=j:=by omega
  have f:=nW l (j/3) _ g (j%3) (by omega);rw[e,d]at f;have:=o (j/3) _ g (j%3) u f.symm;rw[e]at this;have n:(⟨b,off,none⟩:Addr).add j=⟨b,off+j,none⟩:=by unfold Addr.add;split<;>simp_all
  rw[n];exact this
theorem UN(w:World)(x:jI):kB (w.alloc (.cells #[.int .u64 (x.h:Nat),x.v,x.p] 117)) (.slice (some ⟨w.1.size,0,none⟩) 1 1) [x]:=by
 refine qY ⟨w.1.size,0,1,rfl,qK _,by unfold maxLen;omega,by simp,fun i y b j u a=>?_⟩
 match i,b with
 | 0,b =>
   obtain rfl:x=y:=by simpa using b
   match j,a with
   | 0,a=>rw[<-a];simp[fZ]
   | 1,a=>rw[<-a];simp[fZ]
   | 2,a=>rw[<-a];simp[fZ]
theorem rS{w:World}{base:Nat}{vs a:Value}{l m:List jI}(o:ju w base vs l)(p:kB w a m)(u:l.length+m.length<=1000000)(j:base<=w.1.size)(d:TypeId):
  ∃A c w',(Builtin.append_ #[112,112] d #[vs,a]).run prog w=.ok (.slice A (l.length+m.length) c) w'/\ju w' base (.slice A (l.length+m.length) c) (l++m)/\w.grownBy w' vs.ownBlock/\((Value.slice A (l.length+m.length) c).ownBlock=vs.ownBlock∨(Value.slice A (l.length+m.length) c).ownBlock=some w.1.size):=by
 obtain⟨t,n,q,r,s⟩:=info_parts Zg;obtain⟨v',w',f,b,g,i⟩:=fg (P:=prog) w base 112 117 t _ 3 24 d Tryz.underlying112 n q r s rfl (by decide) vs l.length (yj l) o a m.length (yj m) p.src PN (by unfold maxLen;omega) (by omega) j;obtain⟨A,c,rfl,-,-,-⟩:=vl b;refine⟨A,c,w',f, ?_,g,i⟩;unfold ju;rw[UM,qL];exact b
theorem rq{B:Nat}{w w':World}{v:Value}(h:w.grownBy w' v.ownBlock)(b:B<=w.1.size)(a:∀k,v.ownBlock=some k->B<=k):Below B w w':=⟨h.os,h.tape,h.output,h.size,fun k c=>h.block k (by omega) (fun e=>by have:=a k e.symm;omega)⟩
theorem UO(a:Option Addr)(c:Nat):∃A b,sliced a 0 0 c 3=.slice A 0 b:=by unfold sliced;exact⟨_,_,rfl⟩
section
variable {w:World}{v:Value}{l:List jI}{k m:Nat}
theorem UP{b off a:Nat}(r:l.length<=a)(s:a<=maxLen)(t:k<=m)(y:m<=l.length):
  ∃A,sliced (some ⟨b,off,none⟩) k m a 3=.slice A (m-k) (a-k)/\∀W,b<W.1.size->(∀i x,l[i]? = some x->∀j u,(fZ x)[j]? = some u->W.cell? ⟨b,off+(i*3+j),none⟩=some u)->kB W (.slice A (m-k) (a-k)) ((l.drop k).take (m-k)):=by
 have c:((l.drop k).take (m-k)).length=m-k:=by rw[qT,qw];omega
 by_cases f:m-k=0
 ·have p:∃A,sliced (some (⟨b,off,none⟩:Addr)) k m a 3=.slice A (m-k) (a-k):=by unfold sliced;exact⟨_,rfl⟩
  obtain⟨A,e⟩:=p;refine⟨A,e,fun W _ _=>qX ⟨xK.1 (by rw[c];exact f),A,_,by rw[f]⟩⟩
 ·have e:sliced (some (⟨b,off,none⟩:Addr)) k m a 3=.slice (some ⟨b,off+k*3,none⟩) (m-k) (a-k):=by
   unfold sliced;rw[qZ (by omega)];simp[Addr.add]
  refine⟨_,e,fun W g n=>qY ⟨b,off+k*3,a-k,by rw[c],by omega,by omega,g,fun i x d j u q=>?_⟩⟩;have o:i<m-k:=by have:=(qO.1 d).1;rw[c]at this;exact this
  rw[List.getElem?_take,qV o,List.getElem?_drop]at d;have:=n (k+i) x d j u q;rw[show off+k*3+(i*3+j)=off+((k+i)*3+j) by omega];exact this
theorem PO(h:kB w v l)(C:k<=m)(o:m<=l.length):∃A c,
  (∀W,(Instr.slice 112 v (some (.int .i64 (k:Nat))) (some (.int .i64 (m:Nat))) none).run prog W=.ok (.slice A (m-k) c) W)/\∀B W,w.1.size<=B->Below B w W->kB W (.slice A (m-k) c) ((l.drop k).take (m-k)):=by
 have q:∀W,(sizeOf (prog.elem 112)).run prog W=.ok 3 W:=fun W=>by simp[go_sem]
 rcases h with⟨rfl,a,c,rfl⟩|⟨b,off,f,rfl,r,s,g,t⟩
 ·obtain rfl:m=0:=by simpa using o
  obtain rfl:k=0:=by omega
  obtain⟨A,d,e⟩:=UO a c;refine⟨A,d,fun W=>?_,fun B W _ _=>qX ⟨by simp,A,d,rfl⟩⟩;rw[run_slice_lh W _ a 0 c Tryz.underlying112 .i64 .i64 _ _ (by omega) (by omega) (by omega),q];show Result.ok (sliced _ _ _ _ _) W=_;rw[qa,e]
 ·obtain⟨A,e,y⟩:=UP (l:=l) (b:=b) (off:=off) r s C o;refine⟨A,f-k,fun W=>?_,fun B W z n=>y W (qS g n.size) fun i x F j u D=>(n.cell (p:=⟨b,off+(i*3+j),none⟩) (qS g z)).trans (t i x F j u D)⟩;rw[run_slice_lh W _ _ _ f Tryz.underlying112 .i64 .i64 _ _ (by omega) (by omega) (by omega),q];show Result.ok (sliced _ _ _ _ _) W=_;rw[qa,qa,e]
theorem UR(h:kB w v l)(q:k<=l.length):∃A c,
  (∀W,(Instr.slice 112 v (some (.int .i64 (k:Nat))) none none).run prog W=.ok (.slice A (l.length-k) c) W)/\∀B W,w.1.size<=B->Below B w W->kB W (.slice A (l.length-k) c) (l.drop k):=by
 have r:∀W,(sizeOf (prog.elem 112)).run prog W=.ok 3 W:=fun W=>by simp[go_sem]
 rcases h with⟨rfl,a,c,rfl⟩|⟨b,off,f,rfl,t,y,g,z⟩
 ·obtain rfl:k=0:=by simpa using q
  obtain⟨A,d,e⟩:=UO a c;refine⟨A,d,fun W=>?_,fun B W _ _=>qX ⟨by simp,A,d,rfl⟩⟩;rw[run_slice_l W _ a 0 c Tryz.underlying112 .i64 _ (by omega) (by omega),r];show Result.ok (sliced _ _ _ _ _) W=_;rw[qa,e];rfl
 ·obtain⟨A,e,n⟩:=UP (l:=l) (b:=b) (off:=off) t y q (qK _);have s:(l.drop k).take (l.length-k)=l.drop k:=qm (by rw[qw];omega);rw[s]at n;refine⟨A,f-k,fun W=>?_,fun B W C o=>n W (qS g o.size) fun i x F j u D=>(o.cell (p:=⟨b,off+(i*3+j),none⟩) (qS g C)).trans (z i x F j u D)⟩;rw[run_slice_l W _ _ _ f Tryz.underlying112 .i64 _ (by omega) (by omega),r];show Result.ok (sliced _ _ _ _ _) W=_;rw[qa,e]
end
end
section
open Go.ChangeShapes Go.WideShapes Go.ChangeAt Go.RowKit Go.Deep
structure vc where
 e:jI
 k:Int
def lY(x:vc):List Value:=[.int .u64 (x.e.h:Nat),.int .i64 x.e.v,.int .i64 x.e.p,.int .i64 x.k]
def bY(w:World)(v:Value)(l:List vc):Prop :=
 (l=[]/\∃a c,v=.slice a 0 c)∨∃b off d,v=.slice (some ⟨b,off,none⟩) l.length d/\l.length<=d/\d<=maxLen/\b<w.1.size /\
  ∀i x,l[i]? = some x->∀j u,(lY x)[j]? = some u->w.cell? ⟨b,off+(i*4+j),none⟩=some u
theorem bY.below{w w':World}{v:Value}{l:List vc}{B:Nat}(h:bY w v l)(a:Below B w w')(f:w.1.size<=B):bY w' v l:=by
 rcases h with h|⟨b,off,d,r,n,o,c,g⟩
 ·exact qX h
 ·exact qY ⟨b,off,d,r,n,o,qS c a.size,fun i x s j u q=>(a.cell (p:=⟨b,off+(i*4+j),none⟩) (qS c f)).trans (g i x s j u q)⟩
theorem bY.form{w:World}{v:Value}{l:List vc}(h:bY w v l):∃A off g,v=.slice A l.length g/\l.length<=maxLen /\
  ∀i x,l[i]? = some x->∃b,A=some ⟨b,off,none⟩/\b<w.1.size/\w.cell? ⟨b,off+i*4,none⟩=some (.int .u64 (x.e.h:Nat))/\w.cell? ⟨b,off+i*4+1,none⟩=some (.int .i64 x.e.v)/\w.cell? ⟨b,off+i*4+2,none⟩=some (.int .i64 x.e.p) /\
   w.cell? ⟨b,off+i*4+3,none⟩=some (.int .i64 x.k):=by
 rcases h with⟨rfl,a,c,rfl⟩|⟨b,off,g,rfl,n,o,j,d⟩
 ·exact⟨a,0,c,rfl,qI _,fun i x h=>by simp at h⟩
 ·exact⟨some ⟨b,off,none⟩,off,g,rfl,by omega,fun i x f=>⟨b,rfl,j,d i x f 0 _ rfl,d i x f 1 _ rfl,d i x f 2 _ rfl,d i x f 3 _ rfl⟩⟩
def bU(l:List vc):List Value:=l.flatMap lY
theorem Zb: ∀l:List vc,(bU l).length=l.length*4
 | []=>rfl
 | x::l=>by
   unfold bU;rw[List.flatMap_cons,qL];have:=Zb l;unfold bU at this;rw[this,qu];show 4+_=_;omega
theorem Zd: ∀(l:List vc) (i:Nat) (x:vc),l[i]? = some x->∀j,j<4->(bU l)[i*4+j]? = (lY x)[j]?
 | [],i,x,h=>by simp at h
 | y::l,0,x,h=>by
   intro j a;obtain rfl:y=x:=(by simpa using h);unfold bU;rw[List.flatMap_cons,Nat.zero_mul,qe,List.getElem?_append_left (by exact a)]
 | y::l,i+1,x,h=>by
   intro j a;have b:l[i]? = some x:=(by simpa using h);have e:(i+1)*4+j=4+(i*4+j):=(by omega);have:=Zd l i x b j a;unfold bU at*;rw[List.flatMap_cons,e,List.getElem?_append_right (by show 4<=_;omega)];show(l.flatMap lY)[4+(i*4+j)-4]? = _;rw[Nat.add_sub_cancel_left];exact this
theorem PP{l:List vc}:∀u∈bU l,u.oneCell'=true:=by
 intro u b;unfold bU at b;obtain⟨f,_,a⟩:=xV.1 b;simp only[lY,List.mem_cons,List.not_mem_nil,or_false]at a;rcases a with rfl|rfl|rfl|rfl<;>rfl
theorem PR(a b:List vc):bU (a++b)=bU a++bU b:=by unfold bU;rw[List.flatMap_append]
abbrev yP(w:World)(base:Nat)(v:Value)(l:List vc):Prop:=w.ownsRow base 304 4 v l.length (bU l)
theorem yP.xH{w:World}{base:Nat}{v:Value}{l:List vc}(h:yP w base v l):bY w v l:=by
 have b:=h;rcases h.2 with⟨a,n⟩|⟨g,f,t,a,y,o,s,r,A,B⟩
 ·exact qX ⟨xK.1 n,none,0,a⟩
 ·by_cases q:l=[]
  ·subst q;exact qX ⟨rfl,_,_,a⟩
  ·refine qY ⟨g,0,f,a,s,r,(qn.1 o).1,fun i x d j u c=>?_⟩;have z:i<l.length:=(qO.1 d).1;have p:j<4:=(by have:=(qO.1 c).1;exact this);rw[a]at b;rw[qe];exact(b.cellAt (i*4+j) (by omega)).trans ((Zd l i x d j p).trans c)
theorem yP.below{w w':World}{base B:Nat}{v:Value}{l:List vc}(h:yP w base v l)(i:Below B w w')(f:w.1.size<=B):yP w' base v l:=by
 refine⟨h.1, ?_⟩;rcases h.2 with d|⟨g,b,c,o,j,a,r⟩
 ·exact qX d
 ·obtain⟨n,_⟩:=qn.1 a;exact qY ⟨g,b,c,o,j,(i.block g (qS n f)).trans a,r⟩
theorem yP.alloc{w:World}{base:Nat}{v:Value}{l:List vc}(h:yP w base v l)(o:Obj):yP (w.alloc o) base v l:=yP.below h ((qG w.1.size w).alloc (qK _) o) (qK _)
theorem yP.block{w:World}{base:Nat}{v:Value}{l:List vc}(h:yP w base v l):∀k,v.ownBlock=some k->base<=k:=by
 intro k a;rcases h.2 with⟨rfl,_⟩|⟨g,c,d,rfl,b,_⟩
 ·cases a
 ·cases a;exact b
theorem yP.nil(w:World)(base:Nat):yP w base (.slice none 0 0) []:=World.ownsRow_nil _ _ _ _
theorem PS: (prog.info? 304).map (fun i=>(i.zero,i.size,i.bytes))=some (some (.agg #[.int .u64 0,.int .i64 0,.int .i64 0,.int .i64 0]),4,32):=by kernel_rfl
theorem bY.src{w:World}{v:Value}{l:List vc}(h:bY w v l):fX w 4 v l.length (bU l):=by
 refine⟨Zb l, ?_⟩;rcases h with⟨rfl,a,c,rfl⟩|⟨b,off,i,rfl,q,r,s,o⟩
 ·cases a with
  | none=>exact qX ⟨c,rfl,rfl⟩
  | some a=>exact qY ⟨a,c,rfl,fun j u d=>by cases d⟩
 ·refine qY ⟨⟨b,off,none⟩,i,rfl,fun j u d=>?_⟩;have t:j<l.length*4:=by have:=(qO.1 d).1;rw[Zb]at this;exact this
  have p:j/4<l.length:=by omega
  have g:l[j/4]? = some l[j/4]:=qE p;have e:j/4*4+j%4=j:=by omega
  have f:=Zd l (j/4) _ g (j%4) (by omega);rw[e,d]at f;have:=o (j/4) _ g (j%4) u f.symm;rw[e]at this;have n:(⟨b,off,none⟩:Addr).add j=⟨b,off+j,none⟩:=by unfold Addr.add;split<;>simp_all
  rw[n];exact this
theorem PT(w:World)(x:vc):bY (w.alloc (.cells #[.int .u64 (x.e.h:Nat),x.e.v,x.e.p,x.k] 304)) (.slice (some ⟨w.1.size,0,none⟩) 1 1) [x]:=by
 refine qY ⟨w.1.size,0,1,rfl,qK _,by unfold maxLen;omega,by simp,fun i y b j u a=>?_⟩
 match i,b with
 | 0,b =>
   obtain rfl:x=y:=by simpa using b
   match j,a with
   | 0,a=>rw[<-a];simp[lY]
   | 1,a=>rw[<-a];simp[lY]
   | 2,a=>rw[<-a];simp[lY]
   | 3,a=>rw[<-a];simp[lY]
theorem P0{w:World}{base:Nat}{vs a:Value}{l m:List vc}(o:yP w base vs l)(p:bY w a m)(u:l.length+m.length<=1000000)(j:base<=w.1.size)(d:TypeId):
  ∃A c w',(Builtin.append_ #[234,234] d #[vs,a]).run prog w=.ok (.slice A (l.length+m.length) c) w'/\yP w' base (.slice A (l.length+m.length) c) (l++m)/\w.grownBy w' vs.ownBlock/\((Value.slice A (l.length+m.length) c).ownBlock=vs.ownBlock∨(Value.slice A (l.length+m.length) c).ownBlock=some w.1.size):=by
 obtain⟨t,n,q,r,s⟩:=info_parts PS;obtain⟨v',w',f,b,g,i⟩:=fg (P:=prog) w base 234 304 t _ 4 32 d Tryz.underlying234 n q r s rfl (by decide) vs l.length (bU l) o a m.length (bU m) p.src PP (by unfold maxLen;omega) (by omega) j;obtain⟨A,c,rfl,-,-,-⟩:=vl b;refine⟨A,c,w',f, ?_,g,i⟩;unfold yP;rw[PR,qL];exact b
end
section
open Go.RowKit
def dQ(n k:Nat):Bool:=decide (k%8=0)||decide (k+1=n)
def yR(l:List jI):Nat->List vc
 | 0=>[]
 | k+1=>yR l k++(if dQ l.length k=true then(match l[k]? with|some x=>[⟨x,(k:Nat)⟩]|none=>[]) else [])
def vG(l:List jI):List vc:=yR l l.length
theorem QG{l:List jI}{k:Nat}{x:jI}(h:l[k]? = some x)(a:dQ l.length k=true):yR l (k+1)=yR l k++[⟨x,(k:Nat)⟩]:=by
 rw[yR,qV a,h]
theorem US{l:List jI}{k:Nat}(a:dQ l.length k=false):yR l (k+1)=yR l k:=by
 rw[yR,qZ (by rw[a];decide),List.append_nil]
theorem Zf(l:List jI):∀k,(yR l k).length<=k
 | 0=>qK _
 | k+1=>by
   have:=Zf l k;rw[yR,qL];split
   ·split<;>simp<;>omega
   ·simp;omega
def dq(n:Nat):Nat:=if n=0 then 0 else(n-1+7)/8+1
def lU(n j:Nat):Nat:=min (8*j) (n-1)
theorem UT(l:List jI):∀k,k<l.length->(yR l k).length=(k+7)/8/\∀j,j<(k+7)/8->∃x,l[8*j]? = some x/\(yR l k)[j]? = some ⟨x,((8*j:Nat):Int)⟩
 | 0,h=>⟨rfl,fun j i=>by omega⟩
 | k+1,h=>by
   obtain⟨b,d⟩:=UT l k (by omega);have g:l[k]? = some l[k]:=qE (by omega);by_cases f:k%8=0
   ·have e:dQ l.length k=true:=(by unfold dQ;rw[qB f];rfl);rw[QG g e,qL,b];refine⟨by simp;omega,fun j i=>?_⟩;rcases qd j ((k+7)/8) with c|c
    ·obtain⟨y,n,o⟩:=d j c;exact⟨y,n,by rw[List.getElem?_append_left (by rw[b];exact c)];exact o⟩
    ·obtain rfl:j=(k+7)/8:=(by omega);have a:8*((k+7)/8)=k:=(by omega);refine⟨l[k],by rw[a];exact g, ?_⟩;rw[List.getElem?_append_right (by omega),b,Nat.sub_self,a];rfl
   ·have e:dQ l.length k=false:=(by unfold dQ;rw[qA f,qA (by omega)];rfl);rw[US e];have a:(k+1+7)/8=(k+7)/8:=(by omega);rw[a];exact⟨b,d⟩
theorem Zh(l:List jI):(vG l).length=dq l.length/\∀j,j<dq l.length->∃x,l[lU l.length j]? = some x/\(vG l)[j]? = some ⟨x,((lU l.length j:Nat):Int)⟩:=by
 unfold vG dq lU;by_cases b:l.length=0
 ·rw[qV b,b];exact⟨rfl,fun j i=>by omega⟩
 ·rw[qZ b];obtain⟨n,o⟩:∃n,l.length=n+1:=⟨l.length-1,by omega⟩
  rw[o,Nat.add_sub_cancel];obtain⟨d,g⟩:=UT l n (by omega);have f:l[n]? = some l[n]:=qE (by omega);have e:dQ l.length n=true:=by unfold dQ;rw[qB (p:=n+1=l.length) (by omega)];simp
  rw[QG f e,qL,d];refine⟨by simp,fun j i=>?_⟩;rcases qd j ((n+7)/8) with c|c
  ·obtain⟨y,q,r⟩:=g j c;have a:min (8*j) n=8*j:=(by omega);rw[a];exact⟨y,q,by rw[List.getElem?_append_left (by rw[d];exact c)];exact r⟩
  ·obtain rfl:j=(n+7)/8:=(by omega);have a:min (8*((n+7)/8)) n=n:=(by omega);refine⟨l[n],by rw[a];exact f, ?_⟩;rw[List.getElem?_append_right (by omega),d,Nat.sub_self,a];rfl
def cP(e:jI):List vc->Int->Int->Int × Int
 | [],lo,hi=>(lo,hi)
 | x::m,lo,hi=>if jm x.e e=true then cP e m (IntKind.i64.wrap (x.k+1)) hi else(lo,x.k)
def dx(lo hi many:Int):Int × Int:=(min (max lo 0) many,min (max hi (min (max lo 0) many)) many)
theorem P4{lo hi many:Int}(h:0<=lo)(a:lo<=hi)(b:hi<=many):dx lo hi many=(lo,hi):=by
 unfold dx;refine Prod.ext ?_ ?_<;>simp only<;>omega
def loM(m:List vc)(c:Nat):Int:=if c=0 then 0 else match m[c-1]? with|some x=>x.k+1|none=>0
def hiM(m:List vc)(c:Nat)(many:Int):Int:=match m[c]? with|some x=>x.k|none=>many
def QW(e:jI)(m:List vc)(c:Nat):Prop:=c<=m.length/\∀(j:Nat) (x:vc),m[j]? = some x->jm x.e e=decide (j<c)
theorem U0{e:jI}{many:Int}:∀ {m:List vc} {c:Nat} {lo:Int},QW e m c->(∀x∈m,IntKind.i64.wrap (x.k+1)=x.k+1) ->
  cP e m lo many=(if c=0 then lo else loM m c,hiM m c many)
 | [],c,lo,h,_=>by
   obtain rfl:c=0:=(by have:=h.1;simpa using this);rfl
 | x::m,c,lo,h,hw=>by
   have a:=h.2 0 x rfl;cases c with
   | zero =>
     rw[qA (by omega)]at a;rw[cP,qZ (by rw[a];decide)];rfl
   | succ c =>
     rw[qB (by omega)]at a;have d:QW e m c:=⟨by have:=h.1;simp at this;omega,fun j y b=>by rw[h.2 (j+1) y b];exact decide_eq_decide.2 (by omega)⟩
     rw[cP,qV a,U0 d (fun y b=>hw y (qF _ b)),hw x qC];refine Prod.ext ?_ rfl;simp only;unfold loM;rw[qZ (Nat.succ_ne_zero c),Nat.add_sub_cancel];cases c with
     | zero=>rfl
     | succ c =>
       rw[qZ (Nat.succ_ne_zero c),qZ (Nat.succ_ne_zero c),Nat.add_sub_cancel];rfl
section
variable {l:List jI}{e:jI}
theorem P6(e:jI):∀x y,jm x y=true->jm y e=true->jm x e=true:=fun x y h k=>mJ h k
def gS(n K:Nat):Nat:=if K=n then dq n else(K+7)/8
theorem P7(h:kY l):QW e (vG l) (gS l.length (l.countP fun x=>jm x e)):=by
 obtain⟨b,g⟩:=Zh l;have i:=nY (q:=fun x=>jm x e) (P6 e) h;have o:l.countP (fun x=>jm x e)<=l.length:=List.countP_le_length;generalize l.countP (fun x=>jm x e)=K at*;refine⟨?_,fun j x c=>?_⟩
 ·rw[b];unfold gS dq;split
  ·exact qK _
  ·rw[qZ (by omega)];omega
 ·have a:j<dq l.length:=by rw[<-b];exact(qO.1 c).1
  obtain⟨y,n,d⟩:=g j a;rw[c]at d;have f:=qb d;rw[f];show jm y e=_;rw[show jm y e=decide (lU l.length j<K) from i _ y n];refine decide_eq_decide.2 ?_;unfold lU gS;unfold dq at a ⊢;split at a
  ·omega
  ·split<;>(try split)<;>omega
theorem P8(h:kY l):∃lo hi:Nat,loM (vG l) (gS l.length (l.countP fun x=>jm x e))=(lo:Int)/\hiM (vG l) (gS l.length (l.countP fun x=>jm x e)) (l.length:Nat)=(hi:Int) /\
  lo<=l.countP (fun x=>jm x e)/\l.countP (fun x=>jm x e)<=hi/\hi<=l.length/\hi<=lo+7:=by
 obtain⟨b,c⟩:=Zh l;have r:l.countP (fun x=>jm x e)<=l.length:=List.countP_le_length;generalize l.countP (fun x=>jm x e)=K at*
 have o:loM (vG l) (gS l.length K)=((if gS l.length K=0 then 0 else lU l.length (gS l.length K-1)+1:Nat):Int):=by
  unfold loM;split
  ·rfl
  ·rename_i d
   obtain⟨x,_,a⟩:=c (gS l.length K-1) (by
    unfold gS dq at d ⊢;split at d<;>split<;>split<;>(first|omega|(split at d<;>omega)))
   rw[a];simp
 have i:hiM (vG l) (gS l.length K) (l.length:Nat)=((if gS l.length K<dq l.length then lU l.length (gS l.length K) else l.length:Nat):Int):=by
  unfold hiM;split
  ·rename_i x a;have j:gS l.length K<dq l.length:=(by rw[<-b];exact(qO.1 a).1);obtain⟨y,_,p⟩:=c _ j;rw[a]at p;rw[qV j,qb p]
  ·rename_i a;rw[List.getElem?_eq_none_iff,b]at a;rw[qZ (by omega)]
 refine⟨_,_,o,i, ?_⟩;clear o i b c h;unfold lU gS dq;generalize l.length=n at*;by_cases f:n=0
 ·subst f;obtain rfl:K=0:=by omega
  simp
 ·rw[qZ f];by_cases g:K=n
  ·subst g;rw[qV rfl,qZ (by omega),qZ (by omega)];omega
  ·rw[qZ g];by_cases q:K=0
   ·subst q;simp
    try omega
   ·rw[qZ (by omega),qV (by omega)];omega
theorem P9(n:l.length<=1000000):∀x∈vG l,IntKind.i64.wrap (x.k+1)=x.k+1/\0<=x.k/\x.k<=1000000:=by
 intro x f;obtain⟨j,a⟩:=ql f;obtain⟨c,d⟩:=Zh l;obtain⟨y,g,b⟩:=d j (by rw[<-c];exact(qO.1 a).1);rw[a]at b;have i:=(qO.1 g).1;rw[qb b];generalize lU l.length j=k at*;refine⟨qz _ ⟨?_, ?_⟩, ?_, ?_⟩<;>simp only<;>omega
end
end
section
open Go.RowKit
theorem jN.below{w w':World}{g:Nat}{t:TypeId}{cs:Array Value}(h:jN w g t cs)(a:Below w.1.size w w'):jN w' g t cs:=(a.block g h.lt).trans h
abbrev vL(w:World)(g:Nat)(h:Nat)(v p:Int):Prop:=jN w g 117 #[.int .u64 (h:Nat),v,p]
theorem vL.jK{w:World}{g h:Nat}{v p:Int}(H:vL w g h v p)(a:Nat):vL (w.setCell ⟨g,0,none⟩ (.int .u64 (a:Nat))) g a v p:=jN.put H 0 _
theorem vL.jQ{w:World}{g h:Nat}{v p:Int}(H:vL w g h v p)(v':Int):vL (w.setCell ⟨g,1,none⟩ (.int .i64 v')) g h v' p:=jN.put H 1 _
theorem vL.zo{w:World}{g h:Nat}{v p:Int}(H:vL w g h v p)(a:Int):vL (w.setCell ⟨g,2,none⟩ (.int .i64 a)) g h v a:=jN.put H 2 _
theorem vL.facts{w:World}{g h:Nat}{v p:Int}(H:vL w g h v p):w.cell? ⟨g,0,none⟩=some (.int .u64 (h:Nat))/\w.cell? ⟨g,1,none⟩=some (.int .i64 v)/\w.cell? ⟨g,2,none⟩=some (.int .i64 p)/\w.frozen? ⟨g,0,none⟩=false/\w.frozen? ⟨g,1,none⟩=false/\w.frozen? ⟨g,2,none⟩=false :=
 ⟨jN.cell H 0,jN.cell H 1,jN.cell H 2,jN.frozen H 0,jN.frozen H 1,jN.frozen H 2⟩
theorem mU{w w2:World}{g:Nat}(h:Below w.1.size w w2)(d:w.1.size<=g)(a b c:Value):
  Below w.1.size w (((w2.setCell ⟨g,0,none⟩ a).setCell ⟨g,1,none⟩ b).setCell ⟨g,2,none⟩ c):=((h.setCell d _).setCell d _).setCell d _
theorem U1(n:Nat)(h:n<18446744073709551616):(0<=IntKind.i64.wrap (n:Int)↔n<9223372036854775808)/\(n<9223372036854775808->IntKind.i64.wrap (n:Int)=n):=by
 rw[IntKind.wrap_i64];constructor
 ·omega
 ·intro;omega
theorem Pq{s:Tw}(d:s.size=24):mayE ⟨jz (s.extract 0 8),IntKind.i64.wrap (enV s:Nat),IntKind.i64.wrap (enP s:Nat)⟩=vi s/\(vi s=true->enG s=⟨jz (s.extract 0 8),IntKind.i64.wrap (enV s:Nat),IntKind.i64.wrap (enP s:Nat)⟩):=by
 have a:=U1 (enV s) (p9 _);have b:=U1 (enP s) (p9 _);constructor
 ·unfold mayE vi;rw[decide_eq_decide];simp only;rw[a.1,b.1];exact⟨fun h=>⟨d,h⟩,fun h=>h.2⟩
 ·intro h;have c:=of_decide_eq_true h;unfold enG;rw[qV h,a.2 c.2.1,b.2 c.2.2]
theorem Px(s:Tw)(w:World)(f:s.size<=maxLen)(r:s.size≠24):
  Calls prog 224 #[s] w (X3 (.tuple #[ki ⟨0,0,0⟩,.bool false]) w):=by
 unfold maxLen at f;have t:((s.size:Int) != 24)=true:=by simp;omega
 have a:vL (w.alloc (.cells #[.int .u64 ((0:Nat):Int),.int .i64 0,.int .i64 0] 117)) w.1.size 0 0 0:=jN.new _ _ _;have d:=(qG w.1.size w).alloc (qK _) (.cells #[.int .u64 ((0:Nat):Int),.int .i64 0,.int .i64 0] 117);obtain⟨c,b⟩:∃c,w.alloc (.cells #[.int .u64 ((0:Nat):Int),.int .i64 0,.int .i64 0] 117)=c:=⟨_,rfl⟩
 rw[b]at a d;have q:w.alloc (.cells #[.int .u64 0,.int .i64 0,.int .i64 0] 117)=c:=b;clear b;obtain⟨g,i,j,n,o,p⟩:=a.facts;clear a;go_enter func224,ntmps224;go_wp2;exact bodyPost_ret (v:=.tuple #[ki ⟨0,0,0⟩,.bool false]) (by simp[results,Tryz.results224,go_sem,g,i,j]) rfl ⟨rfl,mU d (qK _) _ _ _⟩
theorem Pz(s:Tw)(w:World)(O:s.size=24):
  Calls prog 224 #[s] w (X3 (.tuple #[ki (enG s),.bool (vi s)]) w):=by
 have I:=qQ fun W=>cI (s.extract 0 8) W (by unfold maxLen;rw[qk];omega)
 have J:=qQ fun W=>cI (s.extract 8 16) W (by unfold maxLen;rw[qk];omega)
 have K:=qQ fun W=>cI (s.extract 16 24) W (by unfold maxLen;rw[qk];omega)
 obtain⟨G,q⟩:=Pq O;have g:=fun W=>Zu ⟨jz (s.extract 0 8),IntKind.i64.wrap (enV s:Nat),IntKind.i64.wrap (enP s:Nat)⟩ W
 rw[G]at g;have i:=qQ g;have C:=Yf (s:=s);unfold enV enP at*;clear g G;generalize jz (s.extract 0 8)=h at*;generalize jz (s.extract 8 16)=Q at*;generalize jz (s.extract 16 24)=P at*;obtain⟨v,M⟩:∃v,IntKind.i64.wrap (Q:Int)=v:=⟨_,rfl⟩
 obtain⟨p,L⟩:∃p,IntKind.i64.wrap (P:Int)=p:=⟨_,rfl⟩
 rw[M,L]at i q;have t:((s.size:Int) != 24)=false:=by simp;omega
 have a:vL (w.alloc (.cells #[.int .u64 ((0:Nat):Int),.int .i64 0,.int .i64 0] 117)) w.1.size 0 0 0:=jN.new _ _ _;have j:=(qG w.1.size w).alloc (qK _) (.cells #[.int .u64 ((0:Nat):Int),.int .i64 0,.int .i64 0] 117);obtain⟨r,o⟩:∃r,w.alloc (.cells #[.int .u64 ((0:Nat):Int),.int .i64 0,.int .i64 0] 117)=r:=⟨_,rfl⟩
 rw[o]at a j;have N:w.alloc (.cells #[.int .u64 0,.int .i64 0,.int .i64 0] 117)=r:=o;clear o;have u:=qQ (a.jK h);obtain⟨c,d,f,z,A,B⟩:=a.facts;clear a;cases b:vi s
 all_goals
  rw[b]at i
  first|rw[C b]|rw[q b]
  clear C q b;go_enter func224,ntmps224;go_wp2_with fail;refine X5 (I.out _) ?_;go_wp2_with fail;refine X5 (J.out _) ?_;go_wp2_with fail;refine X5 (K.out _) ?_;have y:=qQ ((u.out.jQ v).zo p);have D:=mU j (qK _) (.int .u64 (h:Nat)) (.int .i64 v) (.int .i64 p);clear u;go_wp2_with fail;refine(i.out _).mono ?_;rintro e R⟨rfl,n⟩;have F:=bj D n;have H:vL R w.1.size h v p:=jN.below y.out n;clear c d f z A B n D y j N;obtain⟨c,d,f,z,A,B⟩:=H.facts;go_wp2
  first
  | exact bodyPost_ret (v:=.tuple #[ki ⟨0,0,0⟩,.bool false]) (by simp[results,Tryz.results224,go_sem,c,d,f]) rfl ⟨rfl,mU F (qK _) _ _ _⟩
  | exact bodyPost_ret (v:=.tuple #[ki ⟨h,v,p⟩,.bool true]) (by simp[results,Tryz.results224,go_sem,c,d,f]) rfl ⟨rfl,mU F (qK _) _ _ _⟩
theorem U2(s:Tw)(w:World)(b:s.size<=maxLen):
  Calls prog 224 #[s] w (X3 (.tuple #[ki (enG s),.bool (vi s)]) w):=by
 by_cases a:s.size=24
 ·exact Pz s w a
 ·have h:=Oy a;rw[Yf h,h];exact Px s w b a
end
section
open Go.RowKit Go.Shelf
theorem Pj: Enters prog 256:=enters_of func256 (by kernel_rfl) rfl
theorem Pk: Enters prog 257:=enters_of func257 (by kernel_rfl) rfl
theorem Pv(x y:jI)(g:Nat)(W:World)(b:vL W g y.h y.v y.p):
  Calls prog 256 #[ki x,.pointer (some ⟨g,0,none⟩)] W fun e d=>e=.returned (.bool (jm x y))/\Below W.1.size W d:=by
 have c:=qQ fun W=>oT x y W
 have a:vL (W.alloc (.cells #[.int .u64 (x.h:Nat),x.v,x.p] 117)) g y.h y.v y.p:=jN.alloc b _;obtain⟨n,o,q,-,-,-⟩:=a.facts;have f:=(qG W.1.size W).alloc (qK _) (.cells #[.int .u64 (x.h:Nat),x.v,x.p] 117);clear b a;obtain⟨h,v,p⟩:=x;obtain⟨j,v',r⟩:=y;go_enter func256,ntmps256;go_wp2_with fail;refine(c.out _).mono ?_;rintro e s⟨rfl,i⟩;go_wp2;go_ret;exact⟨rfl,bj f i⟩
theorem Py(x y:jI)(g:Nat)(W:World)(b:vL W g y.h y.v y.p):
  Calls prog 257 #[ki x,.pointer (some ⟨g,0,none⟩)] W fun e d=>e=.returned (.bool (!jm y x))/\Below W.1.size W d:=by
 have c:=qQ fun W=>oT y x W
 have a:vL (W.alloc (.cells #[.int .u64 (x.h:Nat),x.v,x.p] 117)) g y.h y.v y.p:=jN.alloc b _;obtain⟨n,o,q,-,-,-⟩:=a.facts;have f:=(qG W.1.size W).alloc (qK _) (.cells #[.int .u64 (x.h:Nat),x.v,x.p] 117);clear b a;obtain⟨h,v,p⟩:=x;obtain⟨j,v',r⟩:=y;go_enter func257,ntmps257;go_wp2_with fail;refine(c.out _).mono ?_;rintro e s⟨rfl,i⟩;go_wp2;go_ret;exact⟨rfl,bj f i⟩
def lG(l:List jI)(h:Nat)(v:Int):Nat:=l.countP (uF h v)
theorem U3{l:List jI}(a:kY l)(h:Nat)(v:Int):uB (gP h v) l (nV l h v):=nY (Yr h v) a
theorem Zl{l:List jI}(a:kY l)(h:Nat)(v:Int):uB (uF h v) l (lG l h v):=nY (Z4 h v) a
theorem rz(q:jI->Bool)(l:List jI):l.countP q<=l.length:=List.countP_le_length
theorem Pu{x:jI}{h:Nat}{v:Int}(a:ks x):jm x ⟨h,v,-9223372036854775808⟩=gP h v x:=by
 unfold jm gP;rw[decide_eq_decide];have:=a.p0;simp only;omega
theorem Pg{x:jI}{h:Nat}{v:Int}(a:ks x):(!jm ⟨h,v,9223372036854775807⟩ x)=uF h v x:=by
 unfold jm uF;rw[<-decide_not,decide_eq_decide];have:=a.p1;simp only;omega
theorem Pb(v:Value)(l:List jI)(h:Nat)(n:Int)(w:World)(j:kB w v l)(p:l.length<=1000000)(q:∀x∈l,ks x)(r:kY l):
  Calls prog 218 #[v,.int .u64 (h:Nat),n] w (X3 (.int .i64 (nV l h n:Nat)) w):=by
 have b:vL (w.alloc (.cells #[.int .u64 (h:Nat),n,.int .i64 (-9223372036854775808)] 117)) w.1.size h n (-9223372036854775808):=jN.new _ _ _;have a:=(qG w.1.size w).alloc (qK _) (.cells #[.int .u64 (h:Nat),n,.int .i64 (-9223372036854775808)] 117);have o:=j.below a (qK _);have D:∀(d:Fn) (first c:Array Value) (w:World),(Instr.makeFunc d first c).run prog w=.ok (.func d first c) w:=fun _ _ _ _=>rfl
 have g:Enters prog 256:=Pj
 have hcut:uB (fun x=>jm x ⟨h,n,-9223372036854775808⟩) l (nV l h n):=fun i x s=>by
  have:=U3 r h n i x s;rw[<-this];exact Pu (q x (qN s))
 have B:nV l h n<=l.length:=rz _ l;generalize nV l h n=K at*;have y:=qQ (UL 256 w.1.size (fun x=>jm x ⟨h,n,-9223372036854775808⟩) v l _ o p g (fun x W z=>Pv x ⟨h,n,-9223372036854775808⟩ w.1.size W (jN.below b z)));have u:=qQ hcut;have t:=qQ a;clear j p q r b o hcut a g;go_enter func218,ntmps218;go_wp2_with fail;refine y.out.mono ?_;rintro e F⟨k,C,rfl,f,A⟩;obtain rfl:=f K B u.out;clear f;go_wp2;go_ret;exact⟨rfl,bj t.out A⟩
theorem U4(v:Value)(l:List jI)(h:Nat)(n:Int)(w:World)(j:kB w v l)(p:l.length<=1000000)(q:∀x∈l,ks x)(r:kY l):
  Calls prog 219 #[v,.int .u64 (h:Nat),n] w (X3 (.int .i64 (lG l h n:Nat)) w):=by
 have b:vL (w.alloc (.cells #[.int .u64 (h:Nat),n,.int .i64 9223372036854775807] 117)) w.1.size h n 9223372036854775807:=jN.new _ _ _;have a:=(qG w.1.size w).alloc (qK _) (.cells #[.int .u64 (h:Nat),n,.int .i64 9223372036854775807] 117);have o:=j.below a (qK _);have D:∀(d:Fn) (first c:Array Value) (w:World),(Instr.makeFunc d first c).run prog w=.ok (.func d first c) w:=fun _ _ _ _=>rfl
 have g:Enters prog 257:=Pk
 have hcut:uB (fun x=>!jm ⟨h,n,9223372036854775807⟩ x) l (lG l h n):=fun i x s=>by
  have:=Zl r h n i x s;rw[<-this];exact Pg (q x (qN s))
 have B:lG l h n<=l.length:=rz _ l;generalize lG l h n=K at*;have y:=qQ (UL 257 w.1.size (fun x=>!jm ⟨h,n,9223372036854775807⟩ x) v l _ o p g (fun x W z=>Py x ⟨h,n,9223372036854775807⟩ w.1.size W (jN.below b z)));have u:=qQ hcut;have t:=qQ a;clear j p q r b o hcut a g;go_enter func219,ntmps219;go_wp2_with fail;refine y.out.mono ?_;rintro e F⟨k,C,rfl,f,A⟩;obtain rfl:=f K B u.out;clear f;go_wp2;go_ret;exact⟨rfl,bj t.out A⟩
theorem U5(A:Option Addr)(n c:Nat)(w:World):(binOp .eql 112 (.slice A n c) (.slice none 0 0)).run prog w=.ok (.bool A.isNone) w:=by
 have a:=run_equal_slice_nil (P:=prog) w 112 117 A n c Tryz.underlying112;simp only[binOp];simp[a]
def dX(w:World)(l:List jI)(e:Ending)(w':World):Prop:=∃A c,e=.returned (.slice A l.length c)/\ju w' w.1.size (.slice A l.length c) l/\Below w.1.size w w'
theorem U6(v:Value)(l:List jI)(w:World)(h:kB w v l)(r:l.length<=500000):Calls prog 113 #[v] w (dX w l):=by
 obtain⟨A,off,n,rfl,-,-⟩:=h.form;cases A with
 | none =>
   have G:l=[]:=by
    rcases h with⟨e,_⟩|⟨b,J,I,e,_⟩
    ·exact e
    ·cases e
   subst G;have H:=fun W=>U5 none 0 n W
   clear h r;go_enter func113,ntmps113;go_wp2;go_ret;exact⟨none,0,rfl,ju.nil _ _,qG _ _⟩
 | some a =>
   have f:=(qG w.1.size w).alloc (qK _) (.cells #[] 117);have s:ju (w.alloc (.cells #[] 117)) w.1.size (.slice (some ⟨w.1.size,0,none⟩) 0 0) []:=World.ownsRow_made w #[] 0 (qK _) (qI _) rfl;have p:=h.below f (qK _);obtain⟨u,C,K,c,d,o,D⟩:=rS s p (by simp;omega) (by simp) 112;have q:=f.trans (rq o (B:=w.1.size) (by simp) (fun k F=>by simp[Value.ownBlock]at F;omega));have z:=qQ q;rw[List.nil_append]at d;have t:([]:List jI).length+l.length=l.length:=(by simp);rw[t]at c d;have i:=qQ d;clear h r f s p d o D q t;obtain⟨m,g⟩:∃m,m=l.length:=⟨_,rfl⟩
   have j:=qQ g;rw[<-g]at c i ⊢;clear g;have y:=qQ c;have H:=fun W=>U5 (some a) m n W
   clear c;go_enter func113,ntmps113;go_wp2_with (first|(at_builtin;refine yC rfl _ _ rfl rfl rfl y.out ?_)|fail);go_ret;exact⟨u,C,by rw[<-j.out];rfl,by rw[<-j.out];exact i.out,z.out⟩
theorem QA{w:World}{A:Option Addr}{n c i:Nat}{l:List jI}{x:jI}(h:kB w (.slice A n c) l)(g:l[i]? = some x):∃b off,A=some ⟨b,off,none⟩/\n=l.length/\b<w.1.size/\w.cell? ⟨b,off+i*3,none⟩=some (.int .u64 (x.h:Nat))/\w.cell? ⟨b,off+i*3+1,none⟩=some (.int .i64 x.v)/\w.cell? ⟨b,off+i*3+2,none⟩=some (.int .i64 x.p):=by
 obtain⟨j,off,o,e,_,f⟩:=h.form;obtain⟨rfl,rfl,rfl⟩:=Value.slice.inj e;obtain⟨b,a,d⟩:=f i x g;exact⟨b,off,a,rfl,d⟩
theorem U7(v:Value)(l:List jI)(h:Nat)(a b:Int)(w:World)(c:kB w v l)(hn:l.length<=500000)(u:∀x∈l,ks x)(f:kY l):
  Calls prog 165 #[v,.int .u64 (h:Nat),a,b] w (dX w (vD l h a b)):=by
 have y:=qQ (Pb v l h a w c (by omega) u f);have z:=qQ fun W o=>U4 v l h b W (c.below o (qK _)) (by omega) u f
 have s:=Ob (U3 f h a) (Zl f h b);have l1:nV l h a<=l.length:=rz _ l;have T:lG l h b<=l.length:=rz _ l;have K:=qQ s;rw[s];generalize nV l h a=i at*;generalize lG l h b=j at*;obtain⟨A,off,D,rfl,-,-⟩:=c.form;clear s u f;by_cases R:i<j
 ·obtain⟨Y,c',hs,H⟩:=PO c (Nat.le_of_lt R) T;have G:((l.drop i).take (j-i)).length=j-i:=by rw[qT,qw];omega
  have J:=qQ fun B W O o=>U6 _ _ W (H B W O o) (by rw[G];omega)
  have t:decide ((j:Int)<=(i:Int))=false:=qA (by omega);clear H c G;generalize l.length=n at*;generalize (l.drop i).take (j-i)=L at*;go_enter func165,ntmps165;go_wp2_with fail;refine y.out.mono ?_;rintro e U⟨rfl,d⟩;go_wp2_with fail;refine(z.out _ d).mono ?_;rintro e X⟨rfl,q⟩;have p:=bj d q;go_wp2_with fail;refine(J.out _ _ (qK _) p).mono ?_;rintro e w3⟨Z,c3,rfl,I,P⟩;have C:=qQ I;clear I;go_wp2;go_ret
  exact⟨_,_,rfl,⟨C.out.1,by
   rcases C.out.2 with N|⟨g,D,M,S,Q,r⟩
   ·exact qX N
   ·exact qY ⟨g,D,M,S,qR p.size Q,r⟩⟩,bj p P⟩
 ·have F:(l.drop i).take (j-i)=[]:=by rw[show j-i=0 by omega,List.take_zero]
  rw[F];have t:decide ((j:Int)<=(i:Int))=true:=qB (by omega);clear c K F;generalize l.length=n at*;go_enter func165,ntmps165;go_wp2_with fail;refine y.out.mono ?_;rintro e U⟨rfl,d⟩;go_wp2_with fail;refine(z.out _ d).mono ?_;rintro e X⟨rfl,q⟩;go_wp2;go_ret;exact⟨none,0,rfl,ju.nil _ _,bj d q⟩
end
section
open Go.RowKit
theorem o8{W0 W:World}{p:Addr}{v:Value}(h:Below W0.1.size W0 W)(b:p.block<W0.1.size)(a:W0.cell? p=some v):W.cell? p=some v:=(h.cell b).trans a
theorem Zm{f:Nat}{w1:World}{b h v p n:Nat}(i:n<18446744073709551616)(g:∀W,Calls prog f #[.int .u64 (n:Nat),.int .i64 8] W (X3 (.string (bs (be 8 n))) W))(W:World)
  (a:Below w1.1.size w1 W/\W.cell? ⟨b,0,none⟩=some (.int .u64 (h:Nat))/\W.cell? ⟨b,1,none⟩=some (.int .i64 (v:Nat))/\W.cell? ⟨b,2,none⟩=some (.int .i64 (p:Nat))):
  Calls prog f #[.int .u64 (n:Nat),.int .i64 8] W (X3 (.string (bs (be 8 n))) w1):=(g W).mono fun e w' ⟨d,c⟩=>⟨d,bj a.1 c⟩
theorem Pc(x:jI)(w:World)(b:mayE x=false):
  Calls prog 149 #[ki x] w (X3 (.string (vg x)) w):=by
 have a:=fun W=>Zu x W
 rw[b]at a;rw[ta b];have c:=qQ a;obtain⟨h,v,p⟩:=x;clear a b;go_enter func149,ntmps149;go_wp2_with fail;refine(c.out _).mono ?_;rintro e f⟨rfl,d⟩;go_wp2;go_ret;exact⟨rfl,((qG _ _).alloc (qK _) _).trans (d.mono (by simp))⟩
theorem Pd(h v p:Nat)(w:World)(u:h<18446744073709551616)(F:v<9223372036854775808)(D:p<9223372036854775808):
  Calls prog 149 #[ki ⟨h,(v:Nat),(p:Nat)⟩] w (X3 (.string (vg ⟨h,(v:Nat),(p:Nat)⟩)) w):=by
 have g:mayE ⟨h,(v:Nat),(p:Nat)⟩=true:=qB ⟨by show(0:Int)<=(v:Int);omega,by show(0:Int)<=(p:Int);omega⟩;have f:=fun W=>Zu ⟨h,(v:Nat),(p:Nat)⟩ W
 rw[g]at f;have i:=qQ f;have j:=qQ fun W=>gw h 8 W (by omega) (by omega) u
 have o:=qQ fun W=>gw v 8 W (by omega) (by omega) (by omega)
 have q:=qQ fun W=>gw p 8 W (by omega) (by omega) (by omega)
 have d:=qQ (qU u (qU F D));have y:(bs (be 8 h)).size=8:=by rw[kP,je]
 have z:(bs (be 8 v)).size=8:=by rw[kP,je]
 have K:(bs (be 8 p)).size=8:=by rw[kP,je]
 have e:vg ⟨h,(v:Nat),(p:Nat)⟩=bs (be 8 h)++bs (be 8 v)++bs (be 8 p):=by
  unfold vg;rw[qV g,cF,cF];unfold uh;rw[qh];rfl
 have R:∀w:World,(Op.stringOp .add (bs (be 8 h)) (bs (be 8 v))).run prog w=.ok (.string (bs (be 8 h)++bs (be 8 v))) w:=fun w=>run_string_add_sum (P:=prog) (w:=w) _ _ (by omega)
 have L:(bs (be 8 h)++bs (be 8 v)).size=16:=by rw[qy,y,z]
 have S:∀w:World,(Op.stringOp .add (bs (be 8 h)++bs (be 8 v)) (bs (be 8 p))).run prog w=.ok (.string (vg ⟨h,(v:Nat),(p:Nat)⟩)) w:=fun w=>by rw[e];exact run_string_add_sum (P:=prog) (w:=w) _ _ (by omega)
 generalize vg ⟨h,(v:Nat),(p:Nat)⟩=X at*;clear e f g;go_enter func149,ntmps149;go_wp2_with fail;refine KG (i.out _) fun w1 a=>?_;have G:=a.size;rw[World.size_alloc]at G;have H:w1.cell? ⟨w.1.size,0,none⟩=some (.int .u64 (h:Nat)):=o8 a (by simp) (World.cell?_alloc_at _ _ _ _ rfl);have I:w1.cell? ⟨w.1.size,1,none⟩=some (.int .i64 (v:Nat)):=o8 a (by simp) (World.cell?_alloc_at _ _ _ _ rfl);have J:w1.cell? ⟨w.1.size,2,none⟩=some (.int .i64 (p:Nat)):=o8 a (by simp) (World.cell?_alloc_at _ _ _ _ rfl);have t:Below w.1.size w w1:=((qG _ _).alloc (qK _) _).trans (a.mono (by simp))
 have r:Hid (∀W,Below w1.1.size w1 W->Below w1.1.size w1 W/\W.cell? ⟨w.1.size,0,none⟩=some (.int .u64 (h:Nat))/\W.cell? ⟨w.1.size,1,none⟩=some (.int .i64 (v:Nat))/\W.cell? ⟨w.1.size,2,none⟩=some (.int .i64 (p:Nat))) :=
  qQ fun W c=>⟨c,o8 c (show w.1.size<_ by omega) H,o8 c (show w.1.size<_ by omega) I,o8 c (show w.1.size<_ by omega) J⟩
 have A:=qQ (Zm (w1:=w1) (b:=w.1.size) (h:=h) (v:=v) (p:=p) d.out.1 j.out);have B:=qQ (Zm (w1:=w1) (b:=w.1.size) (h:=h) (v:=v) (p:=p) (n:=v) (by have:=d.out;omega) o.out);have C:=qQ (Zm (w1:=w1) (b:=w.1.size) (h:=h) (v:=v) (p:=p) (n:=p) (by have:=d.out;omega) q.out);generalize bs (be 8 h)++bs (be 8 v)=N at*;generalize bs (be 8 h)=M at*;generalize bs (be 8 v)=O at*;generalize bs (be 8 p)=Q at*;have T:IntKind.u64.wrap ((v:Nat):Int)=(v:Nat):=IntWalk.u64_in _ ⟨by omega,by omega⟩;have U:IntKind.u64.wrap ((p:Nat):Int)=(p:Nat):=IntWalk.u64_in _ ⟨by omega,by omega⟩;clear a j o q i y z K L;go_wp2_with fail
 go_region_held3 (fun W=>Below w1.1.size w1 W/\W.cell? ⟨w.1.size,0,none⟩=some (.int .u64 (h:Nat))/\W.cell? ⟨w.1.size,1,none⟩=some (.int .i64 (v:Nat))/\W.cell? ⟨w.1.size,2,none⟩=some (.int .i64 (p:Nat)))
  (first|assumption|exact r.out _ (by assumption)|exact r.out _ (qG _ _).drew|fail) (first
  | (go_at_call 142;((with_reducible refine KG (A.out _ (by assumption)) fun w' s=>?_)))
  | (go_at_call 142;((with_reducible refine KG (B.out _ (by assumption)) fun w' s=>?_)))
  | (go_at_call 142;((with_reducible refine KG (C.out _ (by assumption)) fun w' s=>?_)))
  | fail)
 all_goals
  go_wp2;go_ret;exact⟨rfl,t.trans ((And.left (‹Below w1.1.size w1 _/\_›)).mono t.size)⟩
theorem Pf{x:jI}(b:ks x)(a:mayE x=true):∃v p:Nat,x=⟨x.h,(v:Nat),(p:Nat)⟩/\v<9223372036854775808/\p<9223372036854775808:=by
 have h:=of_decide_eq_true a;obtain⟨c,d,f,g,i⟩:=b;exact⟨x.v.toNat,x.p.toNat,oM rfl (by show x.v=((x.v.toNat:Nat):Int);omega) (by show x.p=((x.p.toNat:Nat):Int);omega),by omega,by omega⟩
theorem U8(x:jI)(w:World)(b:ks x):
  Calls prog 149 #[ki x] w (X3 (.string (vg x)) w):=by
 cases a:mayE x with
 | false=>exact Pc x w a
 | true =>
   obtain⟨v,p,e,d,c⟩:=Pf b a;rw[e];exact Pd x.h v p w b.h d c
end
section
open Go.RowKit Go.Shelf
theorem Ph{z:Array Oper}{o:Oper}{a:Act}{w:World}{K:Act->World->Prop}{Q:Exit->Act->World->Prop}{E:Prop}{vs b:Value}{base:Nat}{l m:List jI}(n:o.guard=none)(s x:Operand)
  (q:o.op=.call { callee:=.builtin .append,args:=#[s,x],argTypes:=#[112,112] }) (t:a.eval s=vs) (y:a.eval x=b)
  (r:ju w base vs l) (u:kB w b m) (p:l.length+m.length<=1000000) (j:base<=w.1.size)
  (h:∀v' w',ju w' base v' (l++m)->w.grownBy w' vs.ownBlock->(v'.ownBlock=vs.ownBlock∨v'.ownBlock=some w.1.size)->K (a.put o.dst v') w'):
  if Region.wanted o (yielded z a.tmps)=true then Oper.wp prog o a w K Q else E:=by
 obtain⟨A,c,w',d,f,g,i⟩:=rS r u p j o.type;exact Kx n s x _ q t y d (h _ w' f g i)
theorem ju.shape{w:World}{base:Nat}{v:Value}{l:List jI}(h:ju w base v l):∃A c,v=.slice A l.length c/\ju w base (.slice A l.length c) l:=by
 obtain⟨A,c,rfl,-,-,-⟩:=vl h;exact⟨A,c,rfl,h⟩
section
variable {wc W V:World}{vs v':Value}{base:Nat}
theorem QB(h:Below wc.1.size wc W)(o:Obj):Below wc.1.size wc (W.alloc o):=h.alloc h.size o
theorem U9(h:Below wc.1.size wc W)(b:W.grownBy V vs.ownBlock)(a:∀k,vs.ownBlock=some k->wc.1.size<=k):Below wc.1.size wc V:=h.trans (rq b h.size a)
theorem Uq: ∀k,(Value.slice none 0 0).ownBlock=some k->wc.1.size<=k:=fun k h=>by cases h
theorem Ux(h:Below wc.1.size wc W)(c:∀k,vs.ownBlock=some k->wc.1.size<=k)(b:v'.ownBlock=vs.ownBlock∨v'.ownBlock=some W.1.size):∀k,v'.ownBlock=some k->wc.1.size<=k:=by
 intro k a;rcases b with e|e
 ·exact c k (e.symm.trans a)
 ·rw[e]at a;injection a with a;rw[<-a];exact h.size
end
end
section
open Go.RowKit Go.Shelf
attribute [local go_sem ↓] Go.wp_at_zero Go.wp_at_succ
def QC(w:World)(l:List vc)(e:Ending)(w':World):Prop:=∃A c,e=.returned (.slice A l.length c)/\yP w' w.1.size (.slice A l.length c) l/\Below w.1.size w w'
theorem Pm{w:World}{base k:Nat}{v:Value}{l:List jI}{x:jI}(i:yP w base v (yR l k))(a:l[k]? = some x)(f:dQ l.length k=true)(y:l.length<=10000)(q:base<=w.1.size)(j:TypeId){g:Nat}(r:w.1.size=g):
  ∃w' u,(Builtin.append_ #[234,234] j #[v,.slice (some ⟨g,0,none⟩) 1 1]).run prog (w.alloc (.cells #[.int .u64 (x.h:Nat),x.v,x.p,k] 304))=.ok u w' /\
   (∃A c,u=.slice A (yR l (k+1)).length c/\yP w' base (.slice A (yR l (k+1)).length c) (yR l (k+1)))/\Below base w w':=by
 subst r;have s:k<l.length:=(qO.1 a).1;have t:=Zf l k;have h:=P0 (yP.alloc i (.cells #[.int .u64 (x.h:Nat),x.v,x.p,k] 304)) (PT w ⟨x,(k:Nat)⟩) (by simp;omega) (by simp;omega) j;rw[<-QG a f]at h;obtain⟨A,c,w',b,d,n,-⟩:=h;have o:(yR l k).length+[(⟨x,(k:Nat)⟩:vc)].length=(yR l (k+1)).length:=by rw[QG a f,qL]
 rw[o]at b d;refine⟨w',_,b,⟨A,c,rfl,d⟩, ?_⟩;exact((qG base w).alloc q _).trans (rq n (by simp;omega) (yP.block i))
theorem Pn(v:Value)(l:List jI)(w:World)(S:kB w v l)(T:l.length<=10000):
  Calls prog 233 #[v] w (QC w (vG l)):=by
 obtain⟨A0,off,ae,rfl,-,Q⟩:=S.form;have HC:=qQ Q;have f:=qQ (show QC w (vG l)=QC w (yR l l.length) from rfl);generalize vG l=R at*;obtain⟨n,N⟩:∃n,n=l.length:=⟨_,rfl⟩
 have G:=qQ N;rw[<-N]at T f ⊢;clear S Q N;go_enter func233,ntmps233;go_wp2;go_loopw [3,8] (fun u i wr=>∃k:Nat,k<=n/\i=.int .i64 k/\(∃A c,u=.slice A (yR l k).length c/\yP wr w.1.size (.slice A (yR l k).length c) (yR l k))/\Below w.1.size w wr) (fun _ i _=>n-(intOf i).toNat)
 case atStart=>exact⟨0,qI _,rfl,⟨none,0,rfl,yP.nil _ _⟩,qG _ _⟩
 case round =>
  obtain⟨k,hk,rfl,⟨D,c1,rfl,o⟩,a⟩:=hrel;by_cases ad:k<n
  ·have s1:(k:Int)<(n:Int):=(by omega);obtain⟨x,s⟩:∃x,l[k]? = some x:=⟨_,qE (by rw[<-G.out];omega)⟩
   obtain⟨H,rfl,M,z,B,C⟩:=HC.out k x s;have U:=(a.cell (p:=⟨H,off+k*3,none⟩) M).trans z;have X:=(a.cell (p:=⟨H,off+k*3+1,none⟩) M).trans B;have Y:=(a.cell (p:=⟨H,off+k*3+2,none⟩) M).trans C;have r:=yP.alloc o (.cells #[.int .u64 (x.h:Nat),.int .i64 x.v,.int .i64 x.p] 117);have j:=a.alloc a.size (.cells #[.int .u64 (x.h:Nat),.int .i64 x.v,.int .i64 x.p] 117);have e9:IntKind.i64.wrap ((n:Int)-1)=(n:Int)-1:=qz _ ⟨by omega,by omega⟩;have y:=qQ (US (l:=l) (k:=k));have b:dQ l.length k=(decide (k%8=0)||decide (k+1=n)):=(by rw[G.out];rfl);cases d:dQ l.length k
   ·have Z:((k:Int)%8==0)=false:=by
     rw[d]at b;have:=(Bool.or_eq_false_iff.1 b.symm).1;have:=of_decide_eq_false this;exact qg.2 (by omega)
    have t2:((k:Int)==(n:Int)-1)=false:=by
     rw[d]at b;have:=(Bool.or_eq_false_iff.1 b.symm).2;have:=of_decide_eq_false this;exact qg.2 (by omega)
    have ab:=qQ (y.out d);have ac:=qQ r;have aa:=qQ j;have HB:=qQ a;generalize yR l k=L at*;clear s z B C o r a j b d y f;obtain⟨xh,xv,xp⟩:=x;simp only at U X Y;go_wp2;go_roundw
    case rel=>exact⟨k+1,by omega,by go_num,by rw[ab.out];exact⟨D,c1,rfl,ac.out⟩,aa.out⟩
    case measure=>simp[intOf];omega
   ·obtain⟨w',u,I,J,K⟩:=Pm r s d (by rw[<-G.out];exact T) j.size 234 (g:=wr.1.size+1) (by simp);have F:=qQ I;have t:=qQ J;have P:=qQ (j.trans K);rw[d]at b;have O:=Bool.or_eq_true_iff.1 b.symm;obtain⟨xh,xv,xp⟩:=x;simp only at U X Y F;generalize (yR l k).length=ll at*;by_cases h8:k%8=0
    ·have Z:((k:Int)%8==0)=true:=beq_iff_eq.2 (by omega);clear s z B C o r a j b d y f I J K O;go_wp2_with (first|(at_builtin;refine yC rfl _ _ rfl rfl rfl F.out ?_)|fail);go_roundw
     case rel=>exact⟨k+1,by omega,by go_num,t.out,P.out⟩
     case measure=>simp[intOf];omega
    ·have Z:((k:Int)%8==0)=false:=qg.2 (by omega)
     have t2:((k:Int)==(n:Int)-1)=true:=by
      rcases O with q|q
      ·exact absurd (of_decide_eq_true q) h8
      ·have:=of_decide_eq_true q;exact beq_iff_eq.2 (by omega)
     clear s z B C o r a j b d y f I J K O;go_wp2_with (first|(at_builtin;refine yC rfl _ _ rfl rfl rfl F.out ?_)|fail);go_roundw
     case rel=>exact⟨k+1,by omega,by go_num,t.out,P.out⟩
     case measure=>simp[intOf];omega
  ·obtain rfl:k=n:=(by omega);have s1:¬(k:Int)<(k:Int):=(by omega);have t:=qQ (show QC w R (.returned (.slice D (yR l k).length c1)) wr by rw[f.out];exact⟨D,c1,rfl,o,a⟩);clear ad o f;generalize yR l k=L at*;go_wp2;go_ret;exact t.out
end
end Go.Proofs.YthejglbnkmimjaaGreat

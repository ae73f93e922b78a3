import Derived.Deep.Fields
import Derived.ProofKit
import Derived.Test.YtokbfellcadkpaaGreatPp04
set_option linter.unusedVariables false
set_option maxRecDepth 100000
set_option maxHeartbeats 9000000
namespace Go.Proofs.YtokbfellcadkpaaGreat
open Tryz
section
open Go.ChangeShapes Go.WideShapes Go.ChangeAt Go.RowKit Go.Deep
structure jJ where
 h:Nat
 v:Int
 p:Int
def dw(x:jJ):List Value:=[.int .u64 (x.h:Nat),.int .i64 x.v,.int .i64 x.p]
abbrev kS(x:jJ):Value:=.agg #[.int .u64 (x.h:Nat),.int .i64 x.v,.int .i64 x.p]
structure kI(x:jJ):Prop where
 h:x.h<18446744073709551616
 v0:-9223372036854775808<=x.v
 v1:x.v<=9223372036854775807
 p0:-9223372036854775808<=x.p
 p1:x.p<=9223372036854775807
def ju(w:World)(v:Value)(l:List jJ):Prop :=
 (l=[]/\∃a c,v = .slice a 0 c)∨∃b off d,v = .slice (some ⟨b,off,none⟩) l.length d/\l.length<=d/\d<=maxLen/\b<w.heap.size /\
  ∀i x,l[i]? = some x->∀j u,(dw x)[j]? = some u->w.cell? ⟨b,off+(i*3+j),none⟩=some u
theorem ju.below{w w':World}{v:Value}{l:List jJ}{B:Nat}(h:ju w v l)(a:Below B w w')(f:w.heap.size<=B):ju w' v l:=by
 rcases h with h|⟨b,off,d,r,n,o,c,g⟩
 ·exact qX h
 ·exact qY ⟨b,off,d,r,n,o,qR c a.size,fun i x s j u q=>(a.cell (p:=⟨b,off+(i*3+j),none⟩) (qR c f)).trans (g i x s j u q)⟩
theorem OB: laidOutB prog=true:=by kernel_rfl
end
section
open Go.RowKit
def jT(x y:jJ):Bool:=decide (x.h<y.h∨(x.h=y.h/\(x.v<y.v∨(x.v=y.v/\x.p<y.p))))
theorem nh{x y:jJ}:jT x y=true↔(x.h<y.h∨(x.h=y.h/\(x.v<y.v∨(x.v=y.v/\x.p<y.p)))):=by unfold jT;exact decide_eq_true_iff
theorem nr{x y:jJ}(a:x.h=y.h)(b:x.v=y.v)(c:x.p=y.p):x=y:=by cases x;cases y;simp_all
instance qYv : DecidableEq jJ := fun x y => decidable_of_iff (x.h = y.h /\ x.v = y.v /\ x.p = y.p) ⟨fun h => nr h.1 h.2.1 h.2.2, fun h => by subst h; exact ⟨rfl, rfl, rfl⟩⟩
theorem l9(x:jJ):jT x x=false:=by unfold jT;exact qW (by omega)
theorem fv{x y z:jJ}(h:jT x y=true)(k:jT y z=true):jT x z=true:=by rw[nh]at*;omega
theorem ZK{x y:jJ}(h:jT x y=false)(b:x≠y):jT y x=true:=by
 rcases Decidable.em (jT y x=true) with c|c
 ·exact c
 ·exfalso;apply b;have a:¬jT x y=true:=by rw[h];decide
  rw[nh]at a c;exact nr (by omega) (by omega) (by omega)
theorem OC{x y:jJ}(h:jT x y=true):jT y x=false:=by
 cases k:jT y x with
 | false=>rfl
 | true=>have:=fv h k;rw[l9]at this;cases this
def mayE(x:jJ):Bool:=decide (0<=x.v/\0<=x.p)
def uV(x:jJ):List UInt8:=be 8 x.h++(be 8 x.v.toNat++be 8 x.p.toNat)
def kP(x:jJ):Tw:=if mayE x=true then bs (uV x) else ByteArray.empty
def enV(s:Tw):Nat:=jR (s.extract 8 16)
def enP(s:Tw):Nat:=jR (s.extract 16 24)
def vz(s:Tw):Bool:=decide (s.size=24/\enV s<9223372036854775808/\enP s<9223372036854775808)
def enG(s:Tw):jJ:=if vz s=true then⟨jR (s.extract 0 8),(enV s:Nat),(enP s:Nat)⟩ else⟨0,0,0⟩
theorem ZV(x:jJ):(uV x).length=24:=by unfold uV;rw[qI,qI,jq,jq,jq]
theorem tU{x:jJ}(h:mayE x=true):(kP x).size=24:=by unfold kP;rw[qV h,ji,ZV]
theorem Y8(l:List UInt8):(bs l).data.toList=l:=by simp[bs]
theorem ni(s:Tw)(i j:Nat):(s.extract i j).data.toList=(s.data.toList.drop i).take (j-i):=by
 rw[ByteArray.data_extract,Array.toList_extract,List.extract_eq_take_drop]
theorem ZY: (256:Nat) ^ 8=18446744073709551616:=by decide
theorem nw{s:Tw}{l:List UInt8}(h:s.data.toList=l)(a:l.length=8):jR s=un l:=by unfold jR;rw[h,qd (by omega)]
theorem Y9{x:jJ}(n:kI x)(h:mayE x=true):vz (kP x)=true/\enG (kP x)=x:=by
 have u:=of_decide_eq_true h;obtain⟨i,q,r,s,t⟩:=n;have j:=tU h;have e:(kP x).data.toList=uV x:=by unfold kP;rw[qV h,Y8]
 have a:=jq 8 x.h;have b:=jq 8 x.v.toNat;have o:=jq 8 x.p.toNat
 have g:jR ((kP x).extract 0 8)=x.h:=by
  rw[nw (l:=be 8 x.h) _ a,cj,ZY,Nat.mod_eq_of_lt i];rw[ni,e,List.drop_zero];unfold uV;rw[List.take_left' a]
 have c:enV (kP x)=x.v.toNat:=by
  unfold enV;rw[nw (l:=be 8 x.v.toNat) _ b,cj,ZY,Nat.mod_eq_of_lt (by omega)];rw[ni,e];unfold uV;rw[List.drop_left' a,List.take_left' b]
 have d:enP (kP x)=x.p.toNat:=by
  unfold enP;rw[nw (l:=be 8 x.p.toNat) _ o,cj,ZY,Nat.mod_eq_of_lt (by omega)];rw[ni,e];unfold uV;rw[show(16:Nat)=8+8 from rfl,<-List.drop_drop,List.drop_left' a,List.drop_left' b,qd (by omega)]
 have f:vz (kP x)=true:=by
  unfold vz;rw[c,d];exact qA ⟨j,by omega,by omega⟩
 refine⟨f, ?_⟩;unfold enG;rw[qV f,g,c,d];exact nr rfl (by show((x.v.toNat:Nat):Int)=x.v;omega) (by show((x.p.toNat:Nat):Int)=x.p;omega)
theorem OD: vz ByteArray.empty=false:=by unfold vz;exact qW (fun h=>by have:(0:Nat)=24:=h.1;omega)
theorem oQ{x:jJ}(h:mayE x=false):kP x=ByteArray.empty:=by unfold kP;rw[h];rfl
theorem OE{x:jJ}(a:kI x):vz (kP x)=mayE x:=by
 cases h:mayE x with
 | true=>exact(Y9 a h).1
 | false=>rw[oQ h,OD]
theorem OF{s:Tw}(h:vz s=true):mayE (enG s)=true/\kP (enG s)=s:=by
 have p:=of_decide_eq_true h;obtain⟨r,y,u⟩:=p
 have i:mayE (enG s)=true:=by
  unfold enG mayE;rw[qV h];exact qA ⟨by show(0:Int)<=((enV s:Nat):Int);omega,by show(0:Int)<=((enP s:Nat):Int);omega⟩
 refine⟨i, ?_⟩;have t:s.data.toList.length=24:=by rw[Array.length_toList];exact r
 have a:((s.data.toList.drop 0).take 8).length=8:=by rw[qS,List.length_drop];omega
 have b:((s.data.toList.drop 8).take 8).length=8:=by rw[qS,List.length_drop];omega
 have c:((s.data.toList.drop 16).take 8).length=8:=by rw[qS,List.length_drop];omega
 have d:=mG ((s.data.toList.drop 0).take 8);have f:=mG ((s.data.toList.drop 8).take 8);have g:=mG ((s.data.toList.drop 16).take 8);rw[a]at d;rw[b]at f;rw[c]at g;have j:jR (s.extract 0 8)=un ((s.data.toList.drop 0).take 8):=nw (ni s 0 8) a;have n:enV s=un ((s.data.toList.drop 8).take 8):=nw (ni s 8 16) b;have o:enP s=un ((s.data.toList.drop 16).take 8):=nw (ni s 16 24) c
 have e:uV (enG s)=s.data.toList:=by
  unfold enG uV;rw[qV h];show be 8 (jR (s.extract 0 8))++(be 8 ((enV s:Nat):Int).toNat++be 8 ((enP s:Nat):Int).toNat)=_;rw[qh,qh,j,n,o,d,f,g,List.drop_zero];rw[show(16:Nat)=8+8 from rfl,<-List.drop_drop];have q:(((s.data.toList.drop 8).drop 8).take 8)=(s.data.toList.drop 8).drop 8:=qd (by rw[List.length_drop,List.length_drop];omega);rw[q,ql,ql]
 unfold kP;rw[qV i,e,bG]
theorem Yq{s:Tw}(h:vz s=false):enG s=⟨0,0,0⟩:=by unfold enG;rw[h];rfl
theorem OH{s:Tw}(h:s.size≠24):vz s=false:=by unfold vz;exact qW (fun x=>h x.1)
def yz: List jJ->Bool
 | []=>true
 | [_]=>true
 | x::y::l=>jT x y&&yz (y::l)
theorem ZU: ∀ {l:List jJ},(∀(i:Nat) (x y:jJ),l[i]? = some x->l[i+1]? = some y->jT x y=true)->yz l=true
 | [],_=>rfl
 | [_],_=>rfl
 | x::y::l,h=>by
   unfold yz;rw[h 0 x y rfl rfl,Bool.true_and];exact ZU fun i a b ha hb=>h (i+1) a b (by simpa using ha) (by simpa using hb)
theorem Yx: ∀ {l:List jJ},yz l=true->∀(i:Nat) (x y:jJ),l[i]? = some x->l[i+1]? = some y->jT x y=true
 | [],_=>fun i x y c _=>by simp at c
 | [_],_=>fun i x y _ d=>by simp at d
 | a::b::l,h=>by
   unfold yz at h;rw[Bool.and_eq_true]at h;intro i x y c d;cases i with
   | zero =>
     obtain rfl:a=x:=(by simpa using c);obtain rfl:b=y:=(by simpa using d);exact h.1
   | succ i=>exact Yx h.2 i x y (by simpa using c) (by simpa using d)
theorem OI{l:List jJ}{i:Nat}{x y:jJ}(b:l[i]? = some x)(c:l[i+1]? = some y)(h:jT x y=false):yz l=false:=by
 cases a:yz l with
 | false=>rfl
 | true=>rw[Yx a i x y b c]at h;cases h
def jh(l:List jJ):Prop:=l.Pairwise (fun x y=>jT x y=true)
theorem jh.sorted{l:List jJ}(h:jh l):yz l=true:=ZU fun i x y c a=>by
 have b:=(qP.1 a).1;have:=List.pairwise_iff_getElem.1 h i (i+1) (by omega) b (by omega);rw[qC (by omega)]at c;rw[qC b]at a;rw[<-qg c,<-qg a];exact this
theorem Yz: ∀ {l:List jJ},yz l=true->jh l
 | [],_=>List.Pairwise.nil
 | [x],_=>List.pairwise_singleton _ _
 | x::y::l,h=>by
   unfold yz at h;rw[Bool.and_eq_true]at h;have hr:=Yz h.2;refine List.Pairwise.cons (fun z a=>?_) hr;rcases qL.1 a with rfl|a
   ·exact h.1
   ·exact fv h.1 ((List.pairwise_cons.1 hr).1 z a)
def kD(l:List jJ)(x:jJ):Nat:=l.findIdx (fun y=>!jT y x)
def jt(l:List jJ)(x:jJ):List jJ:=if l[kD l x]? = some x then l else l.take (kD l x)++[x]++l.drop (kD l x)
theorem pr(l:List jJ)(x:jJ):kD l x<=l.length:=List.findIdx_le_length
theorem Yj{l:List jJ}{x:jJ}{k:Nat}(f:k<=l.length)(d:∀j y,j<k->l[j]? = some y->jT y x=true):k<=kD l x:=by
 unfold kD;rcases Nat.lt_or_ge (l.findIdx (fun y=>!jT y x)) k with c|c
 ·have b:l.findIdx (fun y=>!jT y x)<l.length:=by omega
  have h:=List.findIdx_getElem (w:=b);have a:=d _ _ c (qC b);simp only[Bool.not_eq_true']at h;rw[h]at a;cases a
 ·exact c
theorem OL{l:List jJ}{x:jJ}{k:Nat}{y:jJ}(h:l[k]? = some y)(a:jT y x=false):kD l x<=k:=by
 unfold kD;have b:k<l.length:=(qP.1 h).1;rcases Nat.lt_or_ge k (l.findIdx (fun y=>!jT y x)) with c|c
 ·have:=List.not_of_lt_findIdx c;rw[qC b]at h;have e:l[k]=y:=by simpa using h
  rw[e]at this;simp[a]at this
 ·exact c
theorem ZG(l:List jJ)(x:jJ):∀y∈l.take (kD l x),jT y x=true:=by
 intro y c;obtain⟨j,a⟩:=List.getElem?_of_mem c;have b:=(qP.1 a).1;rw[qS]at b;rw[List.getElem?_take,qV (by omega),qC (by omega)]at a;have e:=qg a;have:=List.not_of_lt_findIdx (p:=fun y=>!jT y x) (xs:=l) (i:=j) (by unfold kD at b;omega);rw[e]at this;simpa using this
theorem Yk{l:List jJ}{x:jJ}(j:jh l)(i:l[kD l x]?≠some x):∀y∈l.drop (kD l x),jT x y=true:=by
 rcases Nat.lt_or_ge (kD l x) l.length with c|c
 ·have e:l.drop (kD l x)=l[kD l x]::l.drop (kD l x+1):=List.drop_eq_getElem_cons c
  have f:jT l[kD l x] x=false:=by
   have h:(!jT l[kD l x] x)=true:=List.findIdx_getElem (p:=fun y=>!jT y x) (xs:=l) (w:=c);rw[Bool.not_eq_true']at h;exact h
  have g:l[kD l x]≠x:=fun h=>i (by rw[qC c,h])
  have b:=ZK f g;have d:jh (l.drop (kD l x)):=List.Pairwise.drop j;rw[e]at d ⊢;intro y a;rcases qL.1 a with rfl|a
  ·exact b
  ·exact fv b ((List.pairwise_cons.1 d).1 y a)
 ·rw[List.drop_eq_nil_of_le c];intro y a;cases a
theorem ZW{l:List jJ}(f:jh l)(x:jJ):jh (jt l x):=by
 unfold jt;split
 ·exact f
 ·rename_i j;have g:=ZG l x;have i:=Yk f j;refine List.pairwise_append.2 ⟨List.pairwise_append.2 ⟨List.Pairwise.take f,List.pairwise_singleton _ _,fun a c b d=>?_⟩,List.Pairwise.drop f,fun a c b d=>?_⟩
  ·rw[qH.1 d];exact g a c
  ·rcases qB.1 c with c|c
   ·exact fv (g a c) (i b d)
   ·rw[qH.1 c];exact i b d
theorem pt{l:List jJ}{x y:jJ}(h:y∈jt l x):y∈l∨y=x:=by
 unfold jt at h;split at h
 ·exact qX h
 ·rcases qB.1 h with h|h
  ·rcases qB.1 h with h|h
   ·exact qX (List.mem_of_mem_take h)
   ·exact qY (qH.1 h)
  ·exact qX (List.mem_of_mem_drop h)
theorem Yv(l:List jJ)(x:jJ):(jt l x).length<=l.length+1:=by
 unfold jt;split
 ·omega
 ·rw[qI,qI,qS,List.length_drop,List.length_singleton];have:=pr l x;omega
theorem ZA(l:List jJ)(k:Nat)(x:jJ)(h:l[k]? = some x):l.take (k+1)=l.take k++[x]:=by
 rw[List.take_add_one,h];rfl
def uw(h:Nat)(v:Int)(x:jJ):Bool:=decide (x.h<h∨(x.h=h/\x.v<v))
def bg(h:Nat)(v:Int)(x:jJ):Bool:=decide (x.h<h∨(x.h=h/\x.v<=v))
def inQ(h:Nat)(a b:Int)(x:jJ):Bool:=decide (x.h=h/\a<=x.v/\x.v<=b)
def upQ(h:Nat)(b:Int)(x:jJ):Bool:=decide (x.h=h/\x.v<=b)
def mP(l:List jJ)(h:Nat)(v:Int):Nat:=l.countP (uw h v)
def kZ(l:List jJ)(h:Nat)(a b:Int):List jJ:=l.filter (inQ h a b)
def OM(l:List jJ)(h:Nat)(b:Int):Option jJ:=(l.filter (upQ h b)).getLast?
def bc(q:jJ->Bool)(l:List jJ)(k:Nat):Prop:=∀(i:Nat) (x:jJ),l[i]? = some x->q x=decide (i<k)
theorem oX{q:jJ->Bool}(g:∀x y,jT x y=true->q y=true->q x=true):∀ {l:List jJ},jh l->bc q l (l.countP q)
 | [],_=>fun i x h=>by simp at h
 | a::l,hr=>by
   obtain⟨n,o⟩:=List.pairwise_cons.1 hr;have p:=oX g o;intro i x c;cases b:q a with
   | true =>
     rw[List.countP_cons_of_pos b];cases i with
     | zero =>
       obtain rfl:a=x:=(by simpa using c);rw[b,qA (Nat.succ_pos _)]
     | succ i =>
       rw[p i x (by simpa using c),decide_eq_decide];omega
   | false =>
     have f:∀y∈l,q y=false:=fun y d=>by
      cases h:q y with
      | false=>rfl
      | true=>rw[g a y (n y d) h]at b;cases b
     have j:l.countP q=0:=List.countP_eq_zero.2 fun y d=>by rw[f y d];decide
     rw[List.countP_cons_of_neg (by rw[b];decide),j,qW (Nat.not_lt_zero _)];cases i with
     | zero =>
       obtain rfl:a=x:=(by simpa using c);exact b
     | succ i=>exact f x (qM (by simpa using c))
theorem Yy(h:Nat)(v:Int):∀x y,jT x y=true->uw h v y=true->uw h v x=true:=by
 intro x y a b;rw[nh]at a;have:=of_decide_eq_true b;exact qA (by omega)
theorem Yu(h:Nat)(v:Int):∀x y,jT x y=true->bg h v y=true->bg h v x=true:=by
 intro x y a b;rw[nh]at a;have:=of_decide_eq_true b;exact qA (by omega)
theorem bc.tail{q:jJ->Bool}{x:jJ}{l:List jJ}{k:Nat}(h:bc q (x::l) k):q x=decide (0<k)/\bc q l (k-1) :=
 ⟨h 0 x rfl,fun i y a=>by rw[h (i+1) y (by simpa using a),decide_eq_decide];omega⟩
theorem Yg{q r:jJ->Bool}:∀ {l:List jJ} {a b:Nat},bc q l a->bc r l b->l.filter (fun x=>!q x&&r x)=(l.drop a).take (b-a)
 | [],a,b,_,_=>by simp
 | x::l,a,b,hq,hr=>by
   obtain⟨d,f⟩:=hq.tail;obtain⟨g,i⟩:=hr.tail;have c:=Yg f i;rw[List.filter_cons,d,g,c];cases a with
   | zero =>
     cases b with
     | zero=>simp
     | succ b=>simp
   | succ a =>
     have e:decide (0<a+1)=true:=qA (Nat.succ_pos _);rw[e];simp only[Bool.not_true,Bool.false_and,Bool.false_eq_true,if_false,Nat.add_sub_cancel,List.drop_succ_cons];congr 1;omega
theorem ON{l:List jJ}{h:Nat}{a b:Int}{i j:Nat}(c:bc (uw h a) l i)(d:bc (bg h b) l j):kZ l h a b=(l.drop i).take (j-i):=by
 rw[<-Yg c d];unfold kZ;congr 1;funext x;unfold inQ uw bg;rw[<-decide_not,<-Bool.decide_and,decide_eq_decide];omega
theorem OO{p:jJ->Bool}{l:List jJ}(a:∀y∈l,p y=false):(l.filter p).getLast? = none:=by
 have:l.filter p=[]:=List.filter_eq_nil_iff.2 fun y b=>by rw[a y b];decide
 rw[this];rfl
def yA(l:List jJ):List UInt8:=l.flatMap uV
def lq: List UInt8:=[112,116,97,98]
def uI(n:Nat):List UInt8:=lq++be 4 n
def fu(l:List jJ):Tw:=bs (uI l.length++yA l)
def tbB(l:List jJ):Tw:=vE (fu l)
def uY(l:List jJ):Bool:=yz l&&l.all mayE
def tbS(l:List jJ):Tw:=if uY l=true then tbB l else ByteArray.empty
def tbE(l:List jJ):Int:=if uY l=true then 0 else 2
theorem tG(n:Nat):(uI n).length=8:=by unfold uI;rw[qI,jq];rfl
theorem ZB(x:jJ)(l:List jJ):yA (x::l)=uV x++yA l:=by unfold yA;rw[List.flatMap_cons]
theorem Yb(a b:List jJ):yA (a++b)=yA a++yA b:=by unfold yA;rw[List.flatMap_append]
theorem OP(x:jJ):yA [x]=uV x:=by rw[ZB];show _++[]=_;rw[List.append_nil]
theorem tW: ∀l:List jJ,(yA l).length=24*l.length
 | []=>rfl
 | x::l=>by rw[ZB,qI,ZV,tW l,qk];omega
theorem OR{l:List jJ}{k:Nat}{x:jJ}(h:l[k]? = some x):yA (l.take (k+1))=yA (l.take k)++uV x:=by rw[ZA l k x h,Yb,OP]
theorem Yc(l:List jJ):(fu l).size=8+24*l.length:=by unfold fu;rw[ji,qI,tG,tW]
theorem pw(l:List jJ):(tbB l).size=12+24*l.length:=by unfold tbB;rw[lT,Yc];omega
theorem Yd(l:List jJ):(tbB l).data.toList=uI l.length++(yA l++yQ (fu l).data.toList):=by
 unfold tbB;rw[pS];unfold fu;rw[pR,qb]
theorem Yf{x:jJ}(h:mayE x=true):(kP x).data.toList=uV x:=by unfold kP;rw[qV h,Y8]
theorem ZC{l:List jJ}:uY l=true↔yz l=true/\∀x∈l,mayE x=true:=by unfold uY;rw[Bool.and_eq_true,List.all_eq_true]
theorem OS{l:List jJ}(h:yz l=false):uY l=false:=by unfold uY;rw[h];rfl
theorem OT{l:List jJ}{x:jJ}(a:x∈l)(h:mayE x=false):uY l=false:=by
 cases e:uY l with
 | false=>rfl
 | true=>rw[(ZC.1 e).2 x a]at h;cases h
theorem Yh{l:List jJ}(h:uY l=false):tbS l=ByteArray.empty/\tbE l=2:=by unfold tbS tbE;rw[h];exact⟨rfl,rfl⟩
theorem ZD{l:List jJ}(h:uY l=true):tbS l=tbB l/\tbE l=0:=by unfold tbS tbE;rw[h];exact⟨rfl,rfl⟩
def yJ(s:Tw)(i:Nat):Tw:=s.extract (8+24*i) (32+24*i)
def ya(s:Tw)(n:Nat):List jJ:=(List.range n).map fun i=>enG (yJ s i)
def tbN(s:Tw):Nat:=jR (s.extract 4 8)
def vB(s:Tw):Bool:=decide (8<=s.size/\s.extract 0 4=bs lq/\tbN s<=89478484/\s.size=12+24*tbN s/\vt s=true/\(∀i,i<tbN s->vz (yJ s i)=true)/\yz (ya s (tbN s))=true)
def tgL(s:Tw):List jJ:=if vB s=true then ya s (tbN s) else []
def tgE(s:Tw):Int:=if vB s=true then 0 else 90
theorem cl{s:Tw}:vB s=true↔(8<=s.size/\s.extract 0 4=bs lq/\tbN s<=89478484/\s.size=12+24*tbN s/\vt s=true/\(∀i,i<tbN s->vz (yJ s i)=true)/\yz (ya s (tbN s))=true):=by unfold vB;exact decide_eq_true_iff
theorem ZE{s:Tw}(h:vB s=false):tgL s=[]/\tgE s=90:=by unfold tgL tgE;rw[h];exact⟨rfl,rfl⟩
theorem rQ{s:Tw}(h:vB s=true):tgL s=ya s (tbN s)/\tgE s=0:=by unfold tgL tgE;rw[h];exact⟨rfl,rfl⟩
theorem rX(s:Tw)(n:Nat):(ya s n).length=n:=by unfold ya;rw[qj,List.length_range]
theorem Yl(s:Tw){n i:Nat}(h:i<n):(ya s n)[i]? = some (enG (yJ s i)):=by unfold ya;rw[qu,List.getElem?_range h];rfl
theorem O0(s:Tw)(i:Nat):(yJ s i).data.toList=(s.data.toList.drop (8+24*i)).take 24:=by unfold yJ;rw[cd,show 32+24*i-(8+24*i)=24 by omega]
theorem O1(s:Tw){n:Nat}(h:∀i,i<n->vz (yJ s i)=true):∀x∈ya s n,mayE x=true:=by
 intro x a;unfold ya at a;obtain⟨i,b,rfl⟩:=qN.1 a;exact(OF (h i (List.mem_range.1 b))).1
theorem O2(n:Nat)(h:n<4294967296):un (be 4 n)=n:=by
 have p:(256:Nat) ^ 4=4294967296:=by decide
 rw[cj,p,Nat.mod_eq_of_lt h]
theorem O3{s:Tw}{l:List UInt8}(h:s.data.toList=l)(a:l.length=4):jR s=un l:=by unfold jR;rw[h,qd (by omega)]
theorem O4(l:List jJ)(b:l.length<4294967296):(tbB l).extract 0 4=bs lq/\tbN (tbB l)=l.length:=by
 have e:=Yd l;have a:lq.length=4:=rfl;constructor
 ·rw[yt,e];unfold uI;rw[List.drop_zero,qb,List.take_left' (by exact a)]
 ·unfold tbN;rw[O3 (l:=be 4 l.length) _ (jq _ _),O2 _ b];rw[cd,e];unfold uI;rw[qb,List.drop_left' a,List.take_left' (jq 4 l.length)]
theorem Ym{l:List jJ}{i:Nat}{x:jJ}(h:l[i]? = some x)(f:mayE x=true):yJ (tbB l) i=kP x:=by
 have d:i<l.length:=(qP.1 h).1
 have e:(yJ (tbB l) i).data.toList=uV x:=by
  rw[O0,Yd,<-List.drop_drop,List.drop_left' (tG _)]
  have a:l=l.take i++(x::l.drop (i+1)):=by
   have:=(qP.1 h).2;rw[<-this,<-List.drop_eq_getElem_cons d,ql]
  have b:yA l=yA (l.take i)++(uV x++yA (l.drop (i+1))):=by
   conv=>lhs;rw[a]
   rw[Yb,ZB]
  have c:(yA (l.take i)).length=24*i:=by rw[tW,qS];omega
  rw[b,qb,List.drop_left' c,qb,List.take_left' (ZV x)]
 rw[<-bG (yJ (tbB l) i),e,<-Yf f,bG]
theorem O5{l:List jJ}(q:l.length<=89478484)(o:∀x∈l,kI x)(r:uY l=true):vB (tbB l)=true/\ya (tbB l) l.length=l/\tgL (tbB l)=l:=by
 obtain⟨t,f⟩:=ZC.1 r;obtain⟨p,b⟩:=O4 l (by omega)
 have s:∀i,i<l.length->vz (yJ (tbB l) i)=true:=fun i j=>by
  have d:=qC j;have a:=List.getElem_mem j;rw[Ym d (f _ a),OE (o _ a),f _ a]
 have g:ya (tbB l) l.length=l:=by
  apply List.ext_getElem?;intro i;rcases Nat.lt_or_ge i l.length with c|c
  ·have d:=qC c;have a:=List.getElem_mem c;rw[Yl _ c,Ym d (f _ a),(Y9 (o _ a) (f _ a)).2,d]
  ·rw[List.getElem?_eq_none c,List.getElem?_eq_none (by rw[rX];exact c)]
 have n:vB (tbB l)=true:=cl.2 ⟨by rw[pw];omega,p,by rw[b];exact q,by rw[pw,b],Vz _,by rw[b];exact s,by rw[b,g];exact t⟩;exact⟨n,g,by rw[(rQ n).1,b,g]⟩
theorem O6{s t:Tw}(h:vB s=true)(k:Nat)(a:s.size=t.size)(c:∀j,j<k∨k+4<=j->s.data.toList[j]? = t.data.toList[j]?)(b:s≠t):vB t=false:=by
 cases e:vB t with
 | false=>rfl
 | true=>exact absurd (Vk (cl.1 h).2.2.2.2.1 (cl.1 e).2.2.2.2.1 k a c) b
theorem O7{s t:Tw}(h:vB s=true)(i:s.size≠t.size)(c:8<=t.size->t.extract 4 8=s.extract 4 8):vB t=false:=by
 cases e:vB t with
 | false=>rfl
 | true =>
   have b:=cl.1 h;have a:=cl.1 e;have d:tbN t=tbN s:=(by unfold tbN;rw[c a.1]);have f:=b.2.2.2.1;have g:=a.2.2.2.1;omega
theorem O8{s:Tw}(h:vB s=true){k:Nat}(b:k<s.size):vB (s.extract 0 k)=false:=by
 refine O7 h (by rw[qT];omega) fun a=>?_
 rw[qT]at a;have c:=yO s;rw[yt (s.extract 0 k),yt s 4 8,cd,List.drop_zero,Nat.sub_zero,List.drop_take,List.take_take];congr 2;omega
def fQ(n:Int):Int:=if n<0∨89478484<n then 0 else 12+24*n
def oZ(n:Int):Int:=if n<0∨89478484<n then 0 else 8+24*n
theorem tA{n:Int}(h:n<0∨89478484<n):fQ n=0/\oZ n=0:=by unfold fQ oZ;rw[qV h,qV h];exact⟨rfl,rfl⟩
theorem ZF{n:Int}(h:¬(n<0∨89478484<n)):fQ n=12+24*n/\oZ n=8+24*n:=by unfold fQ oZ;rw[qZ h,qZ h];exact⟨rfl,rfl⟩
theorem oJ{n:Nat}(h:n<=89478484):fQ (n:Nat)=((12+24*n:Nat):Int)/\oZ (n:Nat)=((8+24*n:Nat):Int):=by
 obtain⟨a,b⟩:=ZF (n:=(n:Nat)) (by omega);rw[a,b];exact⟨by omega,by omega⟩
theorem Yn(n:Int)(w:World):
  Calls prog 228 #[.int .i64 n] w fun e w'=>e = .returned (.int .i64 (fQ n))/\w=w':=by
 by_cases h:n<0
 ·rw[(tA (qX h)).1];go_enter func228,ntmps228;go_wp2;go_ret;exact⟨rfl,rfl⟩
 ·by_cases a:89478484<n
  ·rw[(tA (qY a)).1];go_enter func228,ntmps228;go_wp2;go_ret;exact⟨rfl,rfl⟩
  ·rw[(ZF (n:=n) (by omega)).1];obtain⟨k,rfl⟩:∃k:Nat,n=k:=⟨n.toNat,by omega⟩
   go_enter func228,ntmps228;go_wp2;go_ret;exact⟨mY (by omega),rfl⟩
theorem tB(n:Int)(w:World):
  Calls prog 212 #[.int .i64 n] w fun e w'=>e = .returned (.int .i64 (oZ n))/\w=w':=by
 have c:=qQ (Yn n w);by_cases h:n<0∨89478484<n
 ·obtain⟨a,b⟩:=tA h;rw[a]at c;rw[b];clear h a b;go_enter func212,ntmps212;go_wp2_with fail;refine c.out.mono ?_;rintro e w'⟨rfl,rfl⟩;go_wp2;go_ret;exact⟨rfl,rfl⟩
 ·obtain⟨a,b⟩:=ZF h;obtain⟨k,rfl⟩:∃k:Nat,n=k:=⟨n.toNat,by omega⟩
  obtain⟨z,d⟩:∃z:Nat,z=12+24*k:=⟨_,rfl⟩
  rw[a,show(12:Int)+24*(k:Nat)=(z:Nat) by omega]at c;rw[b];have g:((z:Int)==0)=false:=qv.2 (by omega);have f:k<=89478484:=by omega
  clear h a b d;go_enter func212,ntmps212;go_wp2_with fail;refine c.out.mono ?_;rintro e w'⟨rfl,rfl⟩;go_wp2;go_ret;exact⟨mY (by omega),rfl⟩
def lx(s:Tw):Bool:=decide (8<=s.size/\s.extract 0 4=bs lq)
def mR(s:Tw):Int:=if lx s=true then(tbN s:Nat) else 0
theorem O9: (⟨#[112,116,97,98]⟩:Tw)=bs lq:=rfl
theorem Oq(s:Tw)(a:8<=s.size):cY s ⟨#[112,116,97,98]⟩=lx s:=by
 unfold cY lx;rw[O9,decide_eq_decide];have:(bs lq).size=4:=rfl;rw[this];exact⟨fun h=>⟨a,h.2⟩,fun h=>⟨by omega,h.2⟩⟩
theorem Ox(s:Tw)(w:World)(c:s.size<=maxLen):
  Calls prog 227 #[.string s] w fun e w'=>e = .returned (.tuple #[.int .i64 (mR s),.bool (lx s)])/\w=w':=by
 by_cases j:s.size<8
 ·have b:lx s=false:=qW (fun h=>by omega);have g:mR s=0:=by unfold mR;rw[b];rfl
  rw[b,g];have q:decide ((s.size:Int)<8)=true:=qA (by omega);clear b g;unfold maxLen at c;go_enter func227,ntmps227;go_wp2;go_ret2;exact⟨rfl,rfl⟩
 ·have a:=fun W=>Qa s ⟨#[112,116,97,98]⟩ W c (by decide)
  rw[Oq s (by omega)]at a;have d:=qQ fun W=>cA (s.extract 4 8) W (by unfold maxLen at*;rw[qT];omega)
  have i:jR (s.extract 4 8)=tbN s:=rfl
  have t:tbN s<4294967296:=by
   have h:=fI ((s.extract 4 8).data.toList.take 8);have p:(256:Nat) ^ 4=4294967296:=(by decide);have o:((s.extract 4 8).data.toList.take 8).length<=4:=(by rw[qS,yO,qT];omega);exact qR h (by rw[<-p];exact Nat.pow_le_pow_right (by decide) o)
  unfold mR;rw[i]at d;clear i;have q:decide ((s.size:Int)<8)=false:=qW (by omega);have u:(8:Int)<=(s.size:Int):=by omega
  have y:8<=s.size:=by omega
  generalize tbN s=n at*;unfold maxLen at c;have f:=qQ a;clear a j;cases e:lx s
  all_goals
   rw[e]at f;clear e;go_enter func227,ntmps227;go_wp2_with fail;refine(f.out _).mono ?_;rintro e r⟨rfl,rfl⟩
   first
   | (go_wp2
      go_ret2;exact⟨rfl,rfl⟩)
   | (go_wp2_with fail
      refine(d.out _).mono ?_;rintro e r⟨rfl,rfl⟩;go_wp2;go_ret2;exact⟨rfl,rfl⟩)
theorem Oz(x y:jJ):((((x.h:Int)==(y.h:Int))&&(x.v==y.v))&&(x.p==y.p))=decide (x=y):=by
 rw[Bool.eq_iff_iff,Bool.and_eq_true,Bool.and_eq_true,beq_iff_eq,beq_iff_eq,beq_iff_eq,decide_eq_true_iff];constructor
 ·rintro ⟨⟨c,a⟩,b⟩;exact nr (by omega) a b
 ·rintro rfl;exact⟨⟨rfl,rfl⟩,rfl⟩
theorem Yp(x y:jJ)(w:World):(Op.equalIn 10000 63 (kS x) (kS y)).run prog w = .ok (decide (x=y)) w:=by
 rw[show(10000:Nat)=9998+1+1 from rfl,run_equalIn_agg w 9999 63 _ _ Tryz.underlying63 Tryz.stoodInHeld63];have e:=Oz x y;by_cases a:(x.h:Int)=(y.h:Int)
 ·by_cases b:x.v=y.v
  ·by_cases c:x.p=y.p
   ·have:x=y:=nr (by omega) b c;rw[qA this];simp[Op.eqFields,go_sem,a,b,c]
   ·have:¬x=y:=fun h=>c (by rw[h])
    rw[qW this];simp[Op.eqFields,go_sem,a,b,c]
  ·have:¬x=y:=fun h=>b (by rw[h])
   rw[qW this];simp[Op.eqFields,go_sem,a,b]
 ·have:¬x=y:=fun h=>a (by rw[h])
  rw[qW this];simp[Op.eqFields,go_sem,a]
theorem ZH(x y:jJ)(w:World):(binOp .eql 63 (kS x) (kS y)).run prog w = .ok (.bool (decide (x=y))) w:=by
 rw[run_eql_struct,Yp];rfl
theorem Oj(x y:jJ)(w:World):(binOp .neq 63 (kS x) (kS y)).run prog w = .ok (.bool (!decide (x=y))) w:=by
 rw[run_neq_struct,Yp];rfl
theorem Yr(w:World)(o a:Obj):Below w.heap.size w ((w.alloc o).alloc a):=((Below.refl _ _).alloc (qK _) _).alloc (by simp) _
theorem oK(x y:jJ)(w:World):
  Calls prog 137 #[kS x,kS y] w fun e w'=>e = .returned (.bool (jT x y))/\Below w.heap.size w w':=by
 obtain⟨h,v,p⟩:=x;obtain⟨a,v',d⟩:=y;have b:=Yr w (.cells #[.int .u64 (h:Nat),.int .i64 v,.int .i64 p] 63) (.cells #[.int .u64 (a:Nat),.int .i64 v',.int .i64 d] 63);have e:=nh (x:=⟨h,v,p⟩) (y:=⟨a,v',d⟩);simp only at e;generalize jT ⟨h,v,p⟩ ⟨a,v',d⟩=q at*;by_cases c:h=a
 ·subst c;by_cases c:v=v'
  ·subst c;by_cases c:p<d
   ·obtain rfl:q=true:=e.2 (by omega);clear e;go_enter func137,ntmps137;go_wp2;go_ret;exact⟨rfl,b⟩
   ·obtain rfl:q=false:=Bool.eq_false_iff.2 (fun t=>by have:=e.1 t;omega);clear e;go_enter func137,ntmps137;go_wp2;go_ret;exact⟨rfl,b⟩
  ·by_cases c2:v<v'
   ·obtain rfl:q=true:=e.2 (by omega);clear e;go_enter func137,ntmps137;go_wp2;go_ret;exact⟨rfl,b⟩
   ·obtain rfl:q=false:=Bool.eq_false_iff.2 (fun t=>by have:=e.1 t;omega);clear e;go_enter func137,ntmps137;go_wp2;go_ret;exact⟨rfl,b⟩
 ·by_cases c2:h<a
  ·obtain rfl:q=true:=e.2 (by omega);clear e;have f:((h:Int) != (a:Int))=true:=(by simp;omega);have g:decide ((h:Int)<(a:Int))=true:=qA (by omega);go_enter func137,ntmps137;go_wp2;go_ret;exact⟨rfl,b⟩
  ·obtain rfl:q=false:=Bool.eq_false_iff.2 (fun t=>by have:=e.1 t;omega);clear e;have f:((h:Int) != (a:Int))=true:=(by simp;omega);have g:decide ((h:Int)<(a:Int))=false:=qW (by omega);go_enter func137,ntmps137;go_wp2;go_ret;exact⟨rfl,b⟩
theorem ZI(x:jJ)(w:World):
  Calls prog 134 #[kS x] w fun e w'=>e = .returned (.bool (mayE x))/\Below w.heap.size w w':=by
 obtain⟨h,v,p⟩:=x;have a:=(Below.refl w.heap.size w).alloc (qK _) (.cells #[.int .u64 (h:Nat),.int .i64 v,.int .i64 p] 63);have e:mayE ⟨h,v,p⟩=decide (0<=v/\0<=p):=rfl;rw[e];clear e;by_cases c:0<=v
 ·by_cases c2:0<=p
  ·rw[qA ⟨c,c2⟩];go_enter func134,ntmps134;go_wp2;go_ret;exact⟨rfl,a⟩
  ·rw[qW (fun x=>c2 x.2)];go_enter func134,ntmps134;go_wp2;go_ret;exact⟨rfl,a⟩
 ·rw[qW (fun x=>c x.1)];go_enter func134,ntmps134;go_wp2;go_ret;exact⟨rfl,a⟩
end
section
open Go.RowKit Go.Shelf
theorem ju.form{w:World}{v:Value}{l:List jJ}(h:ju w v l):∃A off cap,v = .slice A l.length cap/\l.length<=maxLen /\
  ∀i x,l[i]? = some x->∃b,A=some ⟨b,off,none⟩/\b<w.heap.size/\w.cell? ⟨b,off+i*3,none⟩=some (.int .u64 (x.h:Nat))/\w.cell? ⟨b,off+i*3+1,none⟩=some (.int .i64 x.v)/\w.cell? ⟨b,off+i*3+2,none⟩=some (.int .i64 x.p):=by
 rcases h with⟨rfl,a,c,rfl⟩|⟨b,off,cap,rfl,j,n,g,d⟩
 ·exact⟨a,0,c,rfl,qF _,fun i x h=>by simp at h⟩
 ·exact⟨some ⟨b,off,none⟩,off,cap,rfl,by omega,fun i x f=>⟨b,rfl,g,d i x f 0 _ rfl,d i x f 1 _ rfl,d i x f 2 _ rfl⟩⟩
def Ov(q:jJ->Bool)(l:List jJ)(w:World)(e:Ending)(w':World):Prop:=∃k:Nat,k<=l.length/\e = .returned (.int .i64 (k:Nat))/\(∀K,K<=l.length->bc q l K->k=K)/\Below w.heap.size w w'
theorem Oy(a b:Nat)(h:a<=b):((b:Int)-(a:Int)).tdiv 2=(((b-a)/2:Nat):Int):=by
 have e:(b:Int)-(a:Int)=((b-a:Nat):Int):=by omega
 rw[e];rfl
theorem Ou(a b:Nat)(h:a<=b):((b-a:Nat):Int)/2=(((b-a)/2:Nat):Int):=rfl
theorem Ys(f:FuncId)(g:Nat)(q:jJ->Bool)(v:Value)(l:List jJ)(w:World)(X:ju w v l)(hn:l.length<=1000000)(hE:Enters prog f)
  (S:∀(x:jJ) (W:World),Below w.heap.size w W->Calls prog f #[kS x,.pointer (some ⟨g,0,none⟩)] W fun e W'=>e = .returned (.bool (q x))/\Below W.heap.size W W'):
  Calls prog 259 #[v,.func (.func f) #[] #[.pointer (some ⟨g,0,none⟩)]] w (Ov q l w):=by
 obtain⟨A,off,ab,rfl,-,T⟩:=X.form;have Y:=qQ S;have HL:=qQ T;unfold Enters at hE;obtain⟨n,C⟩:∃n,n=l.length:=⟨_,rfl⟩
 have s:=qQ C;rw[<-C]at hn ⊢;clear X S T C;go_enter func259,ntmps259;go_wp2;go_step3;go_wp2;go_step3;go_wp2;go_loopw [5,6] (fun G B wr=>∃a b:Nat,a<=b/\b<=n/\G = .int .i64 a/\B = .int .i64 b/\(∀K,K<=n->bc q l K->a<=K/\K<=b)/\Below w.heap.size w wr) (fun G B _=>(intOf B).toNat-(intOf G).toNat)
 case atStart=>exact⟨0,n,qF _,qK _,rfl,rfl,fun K h _=>⟨qF _,h⟩,Below.refl _ _⟩
 case round =>
  obtain⟨a,b,O,R,rfl,rfl,N,i⟩:=hrel;have r:=qQ N;clear N;have hm:=Oy a b O;have aa:=Ou a b O;by_cases ad:a<b
  ·have t:((a:Int)==(b:Int))=false:=qv.2 (by omega);obtain⟨d,U⟩:∃d,d=(b-a)/2:=⟨_,rfl⟩
   rw[<-U]at hm aa;have ae:a+d<b:=(by omega);have ac:(d:Int)<=1000000:=(by omega);obtain⟨x,F⟩:∃x,l[a+d]? = some x:=⟨_,qC (by rw[<-s.out];omega)⟩
   have I:=qQ F;obtain⟨u,rfl,y,J,L,M⟩:=HL.out (a+d) _ F;have c0:=(i.cell (p:=⟨u,off+(a+d)*3,none⟩) y).trans J;have c1:=(i.cell (p:=⟨u,off+(a+d)*3+1,none⟩) y).trans L;have c2:=(i.cell (p:=⟨u,off+(a+d)*3+2,none⟩) y).trans M;clear J L M F U;have z:=Y.out x wr i;cases D:q x
   all_goals
    rw[D]at z;have Z:=qQ z;have H:=qQ D;clear D z;go_wp2_with fail;refine Z.out.mono ?_;rintro e w2⟨rfl,P⟩;have Q:=bj i P;clear i P c0 c1 c2;go_wp2;go_roundw
    case rel =>
     first
     | exact⟨a+d+1,b,by omega,R,by go_num,rfl,fun K j c=>⟨by have o:=c (a+d) x I.out;rw[H.out]at o;have:=of_decide_eq_true o.symm;omega,(r.out K j c).2⟩,Q⟩
     | exact⟨a,a+d,by omega,by omega,rfl,by go_num,fun K j c=>⟨(r.out K j c).1,by have o:=c (a+d) x I.out;rw[H.out]at o;have:=of_decide_eq_false o.symm;omega⟩,Q⟩
    case measure=>simp[intOf];omega
  ·obtain rfl:a=b:=(by omega);go_wp2;go_ret;exact⟨a,by rw[<-s.out];exact R,rfl,fun K j c=>by have:=r.out K (by rw[s.out];exact j) c;omega,i⟩
end
section
open Go.RowKit
def yB(l:List jJ):List Value:=l.flatMap dw
theorem oV: ∀l:List jJ,(yB l).length=l.length*3
 | []=>rfl
 | x::l=>by
   unfold yB;rw[List.flatMap_cons,qI];have:=oV l;unfold yB at this;rw[this,qk];show 3+_=_;omega
theorem mS: ∀(l:List jJ) (i:Nat) (x:jJ),l[i]? = some x->∀j,j<3->(yB l)[i*3+j]? = (dw x)[j]?
 | [],i,x,h=>by simp at h
 | y::l,0,x,h=>by
   intro j a;obtain rfl:y=x:=(by simpa using h);unfold yB;rw[List.flatMap_cons,Nat.zero_mul,Nat.zero_add,List.getElem?_append_left (by exact a)]
 | y::l,i+1,x,h=>by
   intro j a;have b:l[i]? = some x:=(by simpa using h);have e:(i+1)*3+j=3+(i*3+j):=(by omega);have:=mS l i x b j a;unfold yB at*;rw[List.flatMap_cons,e,List.getElem?_append_right (by show 3<=_;omega)];show(l.flatMap dw)[3+(i*3+j)-3]? = _;rw[Nat.add_sub_cancel_left];exact this
theorem Og{l:List jJ}:∀u∈yB l,u.oneCell'=true:=by
 intro u b;unfold yB at b;obtain⟨f,_,a⟩:=List.mem_flatMap.1 b;simp only[dw,List.mem_cons,List.not_mem_nil,or_false]at a;rcases a with rfl|rfl|rfl<;>rfl
theorem Yt(a b:List jJ):yB (a++b)=yB a++yB b:=by unfold yB;rw[List.flatMap_append]
abbrev jE(w:World)(base:Nat)(v:Value)(l:List jJ):Prop:=w.ownsRow base 63 3 v l.length (yB l)
theorem jE.xQ{w:World}{base:Nat}{v:Value}{l:List jJ}(h:jE w base v l):ju w v l:=by
 have b:=h;rcases h.2 with⟨a,n⟩|⟨g,f,t,a,y,o,s,r,A,B⟩
 ·exact qX ⟨List.length_eq_zero_iff.1 n,none,0,a⟩
 ·by_cases q:l=[]
  ·subst q;exact qX ⟨rfl,_,_,a⟩
  ·refine qY ⟨g,0,f,a,s,r,(qm.1 o).1,fun i x d j u c=>?_⟩;have z:i<l.length:=(qP.1 d).1;have p:j<3:=(by have:=(qP.1 c).1;exact this);rw[a]at b;rw[Nat.zero_add];exact(b.cellAt (i*3+j) (by omega)).trans ((mS l i x d j p).trans c)
theorem jE.below{w w':World}{base B:Nat}{v:Value}{l:List jJ}(h:jE w base v l)(i:Below B w w')(f:w.heap.size<=B):jE w' base v l:=by
 refine⟨h.1, ?_⟩;rcases h.2 with d|⟨g,b,c,o,j,a,r⟩
 ·exact qX d
 ·obtain⟨n,_⟩:=qm.1 a;exact qY ⟨g,b,c,o,j,(i.block g (qR n f)).trans a,r⟩
theorem jE.block{w:World}{base:Nat}{v:Value}{l:List jJ}(h:jE w base v l):∀k,v.ownBlock=some k->base<=k:=by
 intro k a;rcases h.2 with⟨rfl,_⟩|⟨g,c,d,rfl,b,_⟩
 ·cases a
 ·cases a;exact b
theorem jE.nil(w:World)(base:Nat):jE w base (.slice none 0 0) []:=World.ownsRow_nil _ _ _ _
theorem ZL: (prog.info? 63).map (fun i=>(i.zero,i.size,i.bytes))=some (some (.agg #[.int .u64 0,.int .i64 0,.int .i64 0]),3,24):=by kernel_rfl
theorem ju.src{w:World}{v:Value}{l:List jJ}(h:ju w v l):dg w 3 v l.length (yB l):=by
 refine⟨oV l, ?_⟩;rcases h with⟨rfl,a,c,rfl⟩|⟨b,off,i,rfl,q,r,s,o⟩
 ·cases a with
  | none=>exact qX ⟨c,rfl,rfl⟩
  | some a=>exact qY ⟨a,c,rfl,fun j u d=>by cases d⟩
 ·refine qY ⟨⟨b,off,none⟩,i,rfl,fun j u d=>?_⟩;have t:j<l.length*3:=by have:=(qP.1 d).1;rw[oV]at this;exact this
  have p:j/3<l.length:=by omega
  have g:l[j/3]? = some l[j/3]:=qC p;have e:j/3*3+j%3=j:=by omega
  have f:=mS l (j/3) _ g (j%3) (by omega);rw[e,d]at f;have:=o (j/3) _ g (j%3) u f.symm;rw[e]at this;have n:(⟨b,off,none⟩:Addr).add j=⟨b,off+j,none⟩:=by unfold Addr.add;split<;>simp_all
  rw[n];exact this
theorem oY(w:World)(x:jJ):ju (w.alloc (.cells #[.int .u64 (x.h:Nat),.int .i64 x.v,.int .i64 x.p] 63)) (.slice (some ⟨w.heap.size,0,none⟩) 1 1) [x]:=by
 refine qY ⟨w.heap.size,0,1,rfl,qK _,by unfold maxLen;omega,by simp,fun i y b j u a=>?_⟩
 match i,b with
 | 0,b =>
   obtain rfl:x=y:=by simpa using b
   match j,a with
   | 0,a=>rw[<-a];simp[dw]
   | 1,a=>rw[<-a];simp[dw]
   | 2,a=>rw[<-a];simp[dw]
theorem oU{w:World}{base:Nat}{vs a:Value}{l m:List jJ}(o:jE w base vs l)(p:ju w a m)(u:l.length+m.length<=1000000)(j:base<=w.heap.size)(d:TypeId):
  ∃A c w',(Builtin.append_ #[37,37] d #[vs,a]).run prog w = .ok (.slice A (l.length+m.length) c) w'/\jE w' base (.slice A (l.length+m.length) c) (l++m)/\w.grownBy w' vs.ownBlock/\((Value.slice A (l.length+m.length) c).ownBlock=vs.ownBlock∨(Value.slice A (l.length+m.length) c).ownBlock=some w.heap.size):=by
 obtain⟨t,n,q,r,s⟩:=info_parts ZL;obtain⟨v',w',f,b,g,i⟩:=fE (P:=prog) w base 37 63 t _ 3 24 d Tryz.underlying37 n q r s rfl (by decide) vs l.length (yB l) o a m.length (yB m) p.src Og (by unfold maxLen;omega) (by omega) j;obtain⟨A,c,rfl,-,-,-⟩:=yw b;refine⟨A,c,w',f, ?_,g,i⟩;unfold jE;rw[Yt,qI];exact b
theorem lz{B:Nat}{w w':World}{v:Value}(h:w.grownBy w' v.ownBlock)(b:B<=w.heap.size)(a:∀k,v.ownBlock=some k->B<=k):Below B w w':=⟨h.os,h.tape,h.output,h.size,fun k c=>h.block k (by omega) (fun e=>by have:=a k e.symm;omega)⟩
theorem ZM(a:Option Addr)(c:Nat):∃A b,sliced a 0 0 c 3 = .slice A 0 b:=by unfold sliced;exact⟨_,_,rfl⟩
section
variable {w:World}{v:Value}{l:List jJ}{k m:Nat}
theorem ZN{b off cap:Nat}(q:l.length<=cap)(r:cap<=maxLen)(s:k<=m)(t:m<=l.length):
  ∃A,sliced (some ⟨b,off,none⟩) k m cap 3 = .slice A (m-k) (cap-k)/\∀W,b<W.heap.size->(∀i x,l[i]? = some x->∀j u,(dw x)[j]? = some u->W.cell? ⟨b,off+(i*3+j),none⟩=some u)->ju W (.slice A (m-k) (cap-k)) ((l.drop k).take (m-k)):=by
 have a:((l.drop k).take (m-k)).length=m-k:=by rw[qS,List.length_drop];omega
 by_cases d:m-k=0
 ·have o:∃A,sliced (some (⟨b,off,none⟩:Addr)) k m cap 3 = .slice A (m-k) (cap-k):=by unfold sliced;exact⟨_,rfl⟩
  obtain⟨A,e⟩:=o;refine⟨A,e,fun W _ _=>qX ⟨List.length_eq_zero_iff.1 (by rw[a];exact d),A,_,by rw[d]⟩⟩
 ·have e:sliced (some (⟨b,off,none⟩:Addr)) k m cap 3 = .slice (some ⟨b,off+k*3,none⟩) (m-k) (cap-k):=by
   unfold sliced;rw[qZ (by omega)];simp[Addr.add]
  refine⟨_,e,fun W f g=>qY ⟨b,off+k*3,cap-k,by rw[a],by omega,by omega,f,fun i x c j u p=>?_⟩⟩;have n:i<m-k:=by have:=(qP.1 c).1;rw[a]at this;exact this
  rw[List.getElem?_take,qV n,List.getElem?_drop]at c;have:=g (k+i) x c j u p;rw[show off+k*3+(i*3+j)=off+((k+i)*3+j) by omega];exact this
theorem Ob(h:ju w v l)(C:k<=m)(o:m<=l.length):∃A c,
  (∀W,(Instr.slice 37 v (some (.int .i64 (k:Nat))) (some (.int .i64 (m:Nat))) none).run prog W = .ok (.slice A (m-k) c) W)/\∀B W,w.heap.size<=B->Below B w W->ju W (.slice A (m-k) c) ((l.drop k).take (m-k)):=by
 have q:∀W,(sizeOf (prog.elem 37)).run prog W = .ok 3 W:=fun W=>by simp[go_sem]
 rcases h with⟨rfl,a,c,rfl⟩|⟨b,off,f,rfl,r,s,g,t⟩
 ·obtain rfl:m=0:=by simpa using o
  obtain rfl:k=0:=by omega
  obtain⟨A,d,e⟩:=ZM a c;refine⟨A,d,fun W=>?_,fun B W _ _=>qX ⟨by simp,A,d,rfl⟩⟩;rw[run_slice_lh W _ a 0 c Tryz.underlying37 .i64 .i64 _ _ (by omega) (by omega) (by omega),q];show Result.ok (sliced _ _ _ _ _) W=_;rw[qh,e]
 ·obtain⟨A,e,y⟩:=ZN (l:=l) (b:=b) (off:=off) r s C o;refine⟨A,f-k,fun W=>?_,fun B W z n=>y W (qR g n.size) fun i x F j u D=>(n.cell (p:=⟨b,off+(i*3+j),none⟩) (qR g z)).trans (t i x F j u D)⟩;rw[run_slice_lh W _ _ _ f Tryz.underlying37 .i64 .i64 _ _ (by omega) (by omega) (by omega),q];show Result.ok (sliced _ _ _ _ _) W=_;rw[qh,qh,e]
theorem Oc(h:ju w v l)(o:m<=l.length):∃A c,
  (∀W,(Instr.slice 37 v none (some (.int .i64 (m:Nat))) none).run prog W = .ok (.slice A m c) W)/\∀B W,w.heap.size<=B->Below B w W->ju W (.slice A m c) (l.take m):=by
 have q:∀W,(sizeOf (prog.elem 37)).run prog W = .ok 3 W:=fun W=>by simp[go_sem]
 rcases h with⟨rfl,a,c,rfl⟩|⟨b,off,f,rfl,r,s,g,t⟩
 ·obtain rfl:m=0:=by simpa using o
  obtain⟨A,d,e⟩:=ZM a c;refine⟨A,d,fun W=>?_,fun B W _ _=>qX ⟨by simp,A,d,rfl⟩⟩;rw[run_slice_h W _ a 0 c Tryz.underlying37 .i64 _ (by omega) (by omega),q];show Result.ok (sliced _ _ _ _ _) W=_;rw[qh,e]
 ·obtain⟨A,e,y⟩:=ZN (l:=l) (b:=b) (off:=off) (k:=0) r s (qF _) o;refine⟨A,f,fun W=>?_,fun B W z n=>y W (qR g n.size) fun i x D j u C=>(n.cell (p:=⟨b,off+(i*3+j),none⟩) (qR g z)).trans (t i x D j u C)⟩;rw[run_slice_h W _ _ _ f Tryz.underlying37 .i64 _ (by omega) (by omega),q];show Result.ok (sliced _ _ _ _ _) W=_;rw[qh,e];rfl
theorem ZO(h:ju w v l)(q:k<=l.length):∃A c,
  (∀W,(Instr.slice 37 v (some (.int .i64 (k:Nat))) none none).run prog W = .ok (.slice A (l.length-k) c) W)/\∀B W,w.heap.size<=B->Below B w W->ju W (.slice A (l.length-k) c) (l.drop k):=by
 have r:∀W,(sizeOf (prog.elem 37)).run prog W = .ok 3 W:=fun W=>by simp[go_sem]
 rcases h with⟨rfl,a,c,rfl⟩|⟨b,off,f,rfl,t,y,g,z⟩
 ·obtain rfl:k=0:=by simpa using q
  obtain⟨A,d,e⟩:=ZM a c;refine⟨A,d,fun W=>?_,fun B W _ _=>qX ⟨by simp,A,d,rfl⟩⟩;rw[run_slice_l W _ a 0 c Tryz.underlying37 .i64 _ (by omega) (by omega),r];show Result.ok (sliced _ _ _ _ _) W=_;rw[qh,e];rfl
 ·obtain⟨A,e,n⟩:=ZN (l:=l) (b:=b) (off:=off) t y q (qK _);have s:(l.drop k).take (l.length-k)=l.drop k:=qd (by rw[List.length_drop];omega);rw[s]at n;refine⟨A,f-k,fun W=>?_,fun B W C o=>n W (qR g o.size) fun i x F j u D=>(o.cell (p:=⟨b,off+(i*3+j),none⟩) (qR g C)).trans (z i x F j u D)⟩;rw[run_slice_l W _ _ _ f Tryz.underlying37 .i64 _ (by omega) (by omega),r];show Result.ok (sliced _ _ _ _ _) W=_;rw[qh,e]
end
end
section
open Go.ChangeShapes Go.WideShapes Go.ChangeAt Go.RowKit Go.Deep
structure vI where
 e:jJ
 k:Int
def fg(x:vI):List Value:=[.int .u64 (x.e.h:Nat),.int .i64 x.e.v,.int .i64 x.e.p,.int .i64 x.k]
def gM(w:World)(v:Value)(l:List vI):Prop :=
 (l=[]/\∃a c,v = .slice a 0 c)∨∃b off d,v = .slice (some ⟨b,off,none⟩) l.length d/\l.length<=d/\d<=maxLen/\b<w.heap.size /\
  ∀i x,l[i]? = some x->∀j u,(fg x)[j]? = some u->w.cell? ⟨b,off+(i*4+j),none⟩=some u
theorem gM.below{w w':World}{v:Value}{l:List vI}{B:Nat}(h:gM w v l)(a:Below B w w')(f:w.heap.size<=B):gM w' v l:=by
 rcases h with h|⟨b,off,d,r,n,o,c,g⟩
 ·exact qX h
 ·exact qY ⟨b,off,d,r,n,o,qR c a.size,fun i x s j u q=>(a.cell (p:=⟨b,off+(i*4+j),none⟩) (qR c f)).trans (g i x s j u q)⟩
theorem gM.form{w:World}{v:Value}{l:List vI}(h:gM w v l):∃A off cap,v = .slice A l.length cap/\l.length<=maxLen /\
  ∀i x,l[i]? = some x->∃b,A=some ⟨b,off,none⟩/\b<w.heap.size/\w.cell? ⟨b,off+i*4,none⟩=some (.int .u64 (x.e.h:Nat))/\w.cell? ⟨b,off+i*4+1,none⟩=some (.int .i64 x.e.v)/\w.cell? ⟨b,off+i*4+2,none⟩=some (.int .i64 x.e.p) /\
   w.cell? ⟨b,off+i*4+3,none⟩=some (.int .i64 x.k):=by
 rcases h with⟨rfl,a,c,rfl⟩|⟨b,off,cap,rfl,j,n,g,d⟩
 ·exact⟨a,0,c,rfl,qF _,fun i x h=>by simp at h⟩
 ·exact⟨some ⟨b,off,none⟩,off,cap,rfl,by omega,fun i x f=>⟨b,rfl,g,d i x f 0 _ rfl,d i x f 1 _ rfl,d i x f 2 _ rfl,d i x f 3 _ rfl⟩⟩
def gN(l:List vI):List Value:=l.flatMap fg
theorem ZP: ∀l:List vI,(gN l).length=l.length*4
 | []=>rfl
 | x::l=>by
   unfold gN;rw[List.flatMap_cons,qI];have:=ZP l;unfold gN at this;rw[this,qk];show 4+_=_;omega
theorem ZR: ∀(l:List vI) (i:Nat) (x:vI),l[i]? = some x->∀j,j<4->(gN l)[i*4+j]? = (fg x)[j]?
 | [],i,x,h=>by simp at h
 | y::l,0,x,h=>by
   intro j a;obtain rfl:y=x:=(by simpa using h);unfold gN;rw[List.flatMap_cons,Nat.zero_mul,Nat.zero_add,List.getElem?_append_left (by exact a)]
 | y::l,i+1,x,h=>by
   intro j a;have b:l[i]? = some x:=(by simpa using h);have e:(i+1)*4+j=4+(i*4+j):=(by omega);have:=ZR l i x b j a;unfold gN at*;rw[List.flatMap_cons,e,List.getElem?_append_right (by show 4<=_;omega)];show(l.flatMap fg)[4+(i*4+j)-4]? = _;rw[Nat.add_sub_cancel_left];exact this
theorem Od{l:List vI}:∀u∈gN l,u.oneCell'=true:=by
 intro u b;unfold gN at b;obtain⟨f,_,a⟩:=List.mem_flatMap.1 b;simp only[fg,List.mem_cons,List.not_mem_nil,or_false]at a;rcases a with rfl|rfl|rfl|rfl<;>rfl
theorem Of(a b:List vI):gN (a++b)=gN a++gN b:=by unfold gN;rw[List.flatMap_append]
abbrev yK(w:World)(base:Nat)(v:Value)(l:List vI):Prop:=w.ownsRow base 274 4 v l.length (gN l)
theorem yK.xQ{w:World}{base:Nat}{v:Value}{l:List vI}(h:yK w base v l):gM w v l:=by
 have b:=h;rcases h.2 with⟨a,n⟩|⟨g,f,t,a,y,o,s,r,A,B⟩
 ·exact qX ⟨List.length_eq_zero_iff.1 n,none,0,a⟩
 ·by_cases q:l=[]
  ·subst q;exact qX ⟨rfl,_,_,a⟩
  ·refine qY ⟨g,0,f,a,s,r,(qm.1 o).1,fun i x d j u c=>?_⟩;have z:i<l.length:=(qP.1 d).1;have p:j<4:=(by have:=(qP.1 c).1;exact this);rw[a]at b;rw[Nat.zero_add];exact(b.cellAt (i*4+j) (by omega)).trans ((ZR l i x d j p).trans c)
theorem yK.below{w w':World}{base B:Nat}{v:Value}{l:List vI}(h:yK w base v l)(i:Below B w w')(f:w.heap.size<=B):yK w' base v l:=by
 refine⟨h.1, ?_⟩;rcases h.2 with d|⟨g,b,c,o,j,a,r⟩
 ·exact qX d
 ·obtain⟨n,_⟩:=qm.1 a;exact qY ⟨g,b,c,o,j,(i.block g (qR n f)).trans a,r⟩
theorem yK.alloc{w:World}{base:Nat}{v:Value}{l:List vI}(h:yK w base v l)(o:Obj):yK (w.alloc o) base v l:=yK.below h ((Below.refl w.heap.size w).alloc (qK _) o) (qK _)
theorem yK.block{w:World}{base:Nat}{v:Value}{l:List vI}(h:yK w base v l):∀k,v.ownBlock=some k->base<=k:=by
 intro k a;rcases h.2 with⟨rfl,_⟩|⟨g,c,d,rfl,b,_⟩
 ·cases a
 ·cases a;exact b
theorem yK.nil(w:World)(base:Nat):yK w base (.slice none 0 0) []:=World.ownsRow_nil _ _ _ _
theorem Oh: (prog.info? 274).map (fun i=>(i.zero,i.size,i.bytes))=some (some (.agg #[.int .u64 0,.int .i64 0,.int .i64 0,.int .i64 0]),4,32):=by kernel_rfl
theorem gM.src{w:World}{v:Value}{l:List vI}(h:gM w v l):dg w 4 v l.length (gN l):=by
 refine⟨ZP l, ?_⟩;rcases h with⟨rfl,a,c,rfl⟩|⟨b,off,i,rfl,q,r,s,o⟩
 ·cases a with
  | none=>exact qX ⟨c,rfl,rfl⟩
  | some a=>exact qY ⟨a,c,rfl,fun j u d=>by cases d⟩
 ·refine qY ⟨⟨b,off,none⟩,i,rfl,fun j u d=>?_⟩;have t:j<l.length*4:=by have:=(qP.1 d).1;rw[ZP]at this;exact this
  have p:j/4<l.length:=by omega
  have g:l[j/4]? = some l[j/4]:=qC p;have e:j/4*4+j%4=j:=by omega
  have f:=ZR l (j/4) _ g (j%4) (by omega);rw[e,d]at f;have:=o (j/4) _ g (j%4) u f.symm;rw[e]at this;have n:(⟨b,off,none⟩:Addr).add j=⟨b,off+j,none⟩:=by unfold Addr.add;split<;>simp_all
  rw[n];exact this
theorem Ol(w:World)(x:vI):gM (w.alloc (.cells #[.int .u64 (x.e.h:Nat),.int .i64 x.e.v,.int .i64 x.e.p,.int .i64 x.k] 274)) (.slice (some ⟨w.heap.size,0,none⟩) 1 1) [x]:=by
 refine qY ⟨w.heap.size,0,1,rfl,qK _,by unfold maxLen;omega,by simp,fun i y b j u a=>?_⟩
 match i,b with
 | 0,b =>
   obtain rfl:x=y:=by simpa using b
   match j,a with
   | 0,a=>rw[<-a];simp[fg]
   | 1,a=>rw[<-a];simp[fg]
   | 2,a=>rw[<-a];simp[fg]
   | 3,a=>rw[<-a];simp[fg]
theorem Om{w:World}{base:Nat}{vs a:Value}{l m:List vI}(o:yK w base vs l)(p:gM w a m)(u:l.length+m.length<=1000000)(j:base<=w.heap.size)(d:TypeId):
  ∃A c w',(Builtin.append_ #[214,214] d #[vs,a]).run prog w = .ok (.slice A (l.length+m.length) c) w'/\yK w' base (.slice A (l.length+m.length) c) (l++m)/\w.grownBy w' vs.ownBlock/\((Value.slice A (l.length+m.length) c).ownBlock=vs.ownBlock∨(Value.slice A (l.length+m.length) c).ownBlock=some w.heap.size):=by
 obtain⟨t,n,q,r,s⟩:=info_parts Oh;obtain⟨v',w',f,b,g,i⟩:=fE (P:=prog) w base 214 274 t _ 4 32 d Tryz.underlying214 n q r s rfl (by decide) vs l.length (gN l) o a m.length (gN m) p.src Od (by unfold maxLen;omega) (by omega) j;obtain⟨A,c,rfl,-,-,-⟩:=yw b;refine⟨A,c,w',f, ?_,g,i⟩;unfold yK;rw[Of,qI];exact b
end
section
open Go.RowKit
def cm(n k:Nat):Bool:=decide (k%8=0)||decide (k+1=n)
def yV(l:List jJ):Nat->List vI
 | 0=>[]
 | k+1=>yV l k++(if cm l.length k=true then(match l[k]? with | some x=>[⟨x,(k:Nat)⟩] | none=>[]) else [])
def kh(l:List jJ):List vI:=yV l l.length
theorem tC{l:List jJ}{k:Nat}{x:jJ}(h:l[k]? = some x)(a:cm l.length k=true):yV l (k+1)=yV l k++[⟨x,(k:Nat)⟩]:=by
 rw[yV,qV a,h]
theorem Ya{l:List jJ}{k:Nat}(a:cm l.length k=false):yV l (k+1)=yV l k:=by
 rw[yV,qZ (by rw[a];decide),List.append_nil]
theorem ZS(l:List jJ):∀k,(yV l k).length<=k
 | 0=>qK _
 | k+1=>by
   have:=ZS l k;rw[yV,qI];split
   ·split<;>simp<;>omega
   ·simp;omega
def dE(n:Nat):Nat:=if n=0 then 0 else(n-1+7)/8+1
def fh(n j:Nat):Nat:=min (8*j) (n-1)
theorem Ye(l:List jJ):∀k,k<l.length->(yV l k).length=(k+7)/8/\∀j,j<(k+7)/8->∃x,l[8*j]? = some x/\(yV l k)[j]? = some ⟨x,((8*j:Nat):Int)⟩
 | 0,h=>⟨rfl,fun j i=>by omega⟩
 | k+1,h=>by
   obtain⟨b,d⟩:=Ye l k (by omega);have g:l[k]? = some l[k]:=qC (by omega);by_cases f:k%8=0
   ·have e:cm l.length k=true:=(by unfold cm;rw[qA f];rfl);rw[tC g e,qI,b];refine⟨by simp;omega,fun j i=>?_⟩;rcases Nat.lt_or_ge j ((k+7)/8) with c|c
    ·obtain⟨y,n,o⟩:=d j c;exact⟨y,n,by rw[List.getElem?_append_left (by rw[b];exact c)];exact o⟩
    ·obtain rfl:j=(k+7)/8:=(by omega);have a:8*((k+7)/8)=k:=(by omega);refine⟨l[k],by rw[a];exact g, ?_⟩;rw[List.getElem?_append_right (by omega),b,Nat.sub_self,a];rfl
   ·have e:cm l.length k=false:=(by unfold cm;rw[qW f,qW (by omega)];rfl);rw[Ya e];have a:(k+1+7)/8=(k+7)/8:=(by omega);rw[a];exact⟨b,d⟩
theorem ZT(l:List jJ):(kh l).length=dE l.length/\∀j,j<dE l.length->∃x,l[fh l.length j]? = some x/\(kh l)[j]? = some ⟨x,((fh l.length j:Nat):Int)⟩:=by
 unfold kh dE fh;by_cases b:l.length=0
 ·rw[qV b,b];exact⟨rfl,fun j i=>by omega⟩
 ·rw[qZ b];obtain⟨n,o⟩:∃n,l.length=n+1:=⟨l.length-1,by omega⟩
  rw[o,Nat.add_sub_cancel];obtain⟨d,g⟩:=Ye l n (by omega);have f:l[n]? = some l[n]:=qC (by omega);have e:cm l.length n=true:=by unfold cm;rw[qA (p:=n+1=l.length) (by omega)];simp
  rw[tC f e,qI,d];refine⟨by simp,fun j i=>?_⟩;rcases Nat.lt_or_ge j ((n+7)/8) with c|c
  ·obtain⟨y,q,r⟩:=g j c;have a:min (8*j) n=8*j:=(by omega);rw[a];exact⟨y,q,by rw[List.getElem?_append_left (by rw[d];exact c)];exact r⟩
  ·obtain rfl:j=(n+7)/8:=(by omega);have a:min (8*((n+7)/8)) n=n:=(by omega);refine⟨l[n],by rw[a];exact f, ?_⟩;rw[List.getElem?_append_right (by omega),d,Nat.sub_self,a];rfl
def cC(e:jJ):List vI->Int->Int->Int × Int
 | [],lo,hi=>(lo,hi)
 | x::m,lo,hi=>if jT x.e e=true then cC e m (IntKind.i64.wrap (x.k+1)) hi else(lo,x.k)
def dF(lo hi many:Int):Int × Int:=(min (max lo 0) many,min (max hi (min (max lo 0) many)) many)
theorem On{lo hi many:Int}(h:0<=lo)(a:lo<=hi)(b:hi<=many):dF lo hi many=(lo,hi):=by
 unfold dF;refine Prod.ext ?_ ?_<;>simp only<;>omega
def loM(m:List vI)(c:Nat):Int:=if c=0 then 0 else match m[c-1]? with | some x=>x.k+1 | none=>0
def hiM(m:List vI)(c:Nat)(many:Int):Int:=match m[c]? with | some x=>x.k | none=>many
def tD(e:jJ)(m:List vI)(c:Nat):Prop:=c<=m.length/\∀(j:Nat) (x:vI),m[j]? = some x->jT x.e e=decide (j<c)
theorem Yi{e:jJ}{many:Int}:∀ {m:List vI} {c:Nat} {lo:Int},tD e m c->(∀x∈m,IntKind.i64.wrap (x.k+1)=x.k+1) ->
  cC e m lo many=(if c=0 then lo else loM m c,hiM m c many)
 | [],c,lo,h,_=>by
   obtain rfl:c=0:=(by have:=h.1;simpa using this);rfl
 | x::m,c,lo,h,hw=>by
   have a:=h.2 0 x rfl;cases c with
   | zero =>
     rw[qW (by omega)]at a;rw[cC,qZ (by rw[a];decide)];rfl
   | succ c =>
     rw[qA (by omega)]at a;have d:tD e m c:=⟨by have:=h.1;simp at this;omega,fun j y b=>by rw[h.2 (j+1) y b];exact decide_eq_decide.2 (by omega)⟩
     rw[cC,qV a,Yi d (fun y b=>hw y (qE _ b)),hw x qD];refine Prod.ext ?_ rfl;simp only;unfold loM;rw[qZ (Nat.succ_ne_zero c),Nat.add_sub_cancel];cases c with
     | zero=>rfl
     | succ c =>
       rw[qZ (Nat.succ_ne_zero c),qZ (Nat.succ_ne_zero c),Nat.add_sub_cancel];rfl
section
variable {l:List jJ}{e:jJ}
theorem Ot(e:jJ):∀x y,jT x y=true->jT y e=true->jT x e=true:=fun x y h k=>fv h k
def gQ(n K:Nat):Nat:=if K=n then dE n else(K+7)/8
theorem Oa(h:jh l):tD e (kh l) (gQ l.length (l.countP fun x=>jT x e)):=by
 obtain⟨b,g⟩:=ZT l;have i:=oX (q:=fun x=>jT x e) (Ot e) h;have o:l.countP (fun x=>jT x e)<=l.length:=List.countP_le_length;generalize l.countP (fun x=>jT x e)=K at*;refine⟨?_,fun j x c=>?_⟩
 ·rw[b];unfold gQ dE;split
  ·exact qK _
  ·rw[qZ (by omega)];omega
 ·have a:j<dE l.length:=by rw[<-b];exact(qP.1 c).1
  obtain⟨y,n,d⟩:=g j a;rw[c]at d;have f:=qg d;rw[f];show jT y e=_;rw[show jT y e=decide (fh l.length j<K) from i _ y n];refine decide_eq_decide.2 ?_;unfold fh gQ;unfold dE at a ⊢;split at a
  ·omega
  ·split<;>(try split)<;>omega
theorem Oe(h:jh l):∃lo hi:Nat,loM (kh l) (gQ l.length (l.countP fun x=>jT x e))=(lo:Int)/\hiM (kh l) (gQ l.length (l.countP fun x=>jT x e)) (l.length:Nat)=(hi:Int) /\
  lo<=l.countP (fun x=>jT x e)/\l.countP (fun x=>jT x e)<=hi/\hi<=l.length/\hi<=lo+7:=by
 obtain⟨b,c⟩:=ZT l;have r:l.countP (fun x=>jT x e)<=l.length:=List.countP_le_length;generalize l.countP (fun x=>jT x e)=K at*
 have o:loM (kh l) (gQ l.length K)=((if gQ l.length K=0 then 0 else fh l.length (gQ l.length K-1)+1:Nat):Int):=by
  unfold loM;split
  ·rfl
  ·rename_i d
   obtain⟨x,_,a⟩:=c (gQ l.length K-1) (by
    unfold gQ dE at d ⊢;split at d<;>split<;>split<;>(first | omega | (split at d<;>omega)))
   rw[a];simp
 have i:hiM (kh l) (gQ l.length K) (l.length:Nat)=((if gQ l.length K<dE l.length then fh l.length (gQ l.length K) else l.length:Nat):Int):=by
  unfold hiM;split
  ·rename_i x a;have j:gQ l.length K<dE l.length:=(by rw[<-b];exact(qP.1 a).1);obtain⟨y,_,p⟩:=c _ j;rw[a]at p;rw[qV j,qg p]
  ·rename_i a;rw[List.getElem?_eq_none_iff,b]at a;rw[qZ (by omega)]
 refine⟨_,_,o,i, ?_⟩;clear o i b c h;unfold fh gQ dE;generalize l.length=n at*;by_cases f:n=0
 ·subst f;obtain rfl:K=0:=by omega
  simp
 ·rw[qZ f];by_cases g:K=n
  ·subst g;rw[qV rfl,qZ (by omega),qZ (by omega)];omega
  ·rw[qZ g];by_cases q:K=0
   ·subst q;simp
    try omega
   ·rw[qZ (by omega),qV (by omega)];omega
theorem Oi(n:l.length<=1000000):∀x∈kh l,IntKind.i64.wrap (x.k+1)=x.k+1/\0<=x.k/\x.k<=1000000:=by
 intro x f;obtain⟨j,a⟩:=List.getElem?_of_mem f;obtain⟨c,d⟩:=ZT l;obtain⟨y,g,b⟩:=d j (by rw[<-c];exact(qP.1 a).1);rw[a]at b;have i:=(qP.1 g).1;rw[qg b];generalize fh l.length j=k at*;refine⟨IntWalk.i64_in _ ⟨?_, ?_⟩, ?_, ?_⟩<;>simp only<;>omega
end
end
section
open Go.RowKit
theorem jY.below{w w':World}{g:Nat}{t:TypeId}{cs:Array Value}(h:jY w g t cs)(a:Below w.heap.size w w'):jY w' g t cs:=(a.block g h.lt).trans h
abbrev yj(w:World)(g:Nat)(h:Nat)(v p:Int):Prop:=jY w g 63 #[.int .u64 (h:Nat),.int .i64 v,.int .i64 p]
theorem yj.zL{w:World}{g h:Nat}{v p:Int}(H:yj w g h v p)(a:Nat):yj (w.setCell ⟨g,0,none⟩ (.int .u64 (a:Nat))) g a v p:=jY.put H 0 _
theorem yj.zr{w:World}{g h:Nat}{v p:Int}(H:yj w g h v p)(v':Int):yj (w.setCell ⟨g,1,none⟩ (.int .i64 v')) g h v' p:=jY.put H 1 _
theorem yj.zx{w:World}{g h:Nat}{v p:Int}(H:yj w g h v p)(a:Int):yj (w.setCell ⟨g,2,none⟩ (.int .i64 a)) g h v a:=jY.put H 2 _
theorem yj.facts{w:World}{g h:Nat}{v p:Int}(H:yj w g h v p):w.cell? ⟨g,0,none⟩=some (.int .u64 (h:Nat))/\w.cell? ⟨g,1,none⟩=some (.int .i64 v)/\w.cell? ⟨g,2,none⟩=some (.int .i64 p)/\w.frozen? ⟨g,0,none⟩=false/\w.frozen? ⟨g,1,none⟩=false/\w.frozen? ⟨g,2,none⟩=false :=
 ⟨jY.cell H 0,jY.cell H 1,jY.cell H 2,jY.frozen H 0,jY.frozen H 1,jY.frozen H 2⟩
theorem tE{w w2:World}{g:Nat}(h:Below w.heap.size w w2)(d:w.heap.size<=g)(a b c:Value):
  Below w.heap.size w (((w2.setCell ⟨g,0,none⟩ a).setCell ⟨g,1,none⟩ b).setCell ⟨g,2,none⟩ c):=((h.setCell d _).setCell d _).setCell d _
theorem Yo(n:Nat)(h:n<18446744073709551616):(0<=IntKind.i64.wrap (n:Int)↔n<9223372036854775808)/\(n<9223372036854775808->IntKind.i64.wrap (n:Int)=n):=by
 rw[IntKind.wrap_i64];constructor
 ·omega
 ·intro;omega
theorem Oo{s:Tw}(d:s.size=24):mayE ⟨jR (s.extract 0 8),IntKind.i64.wrap (enV s:Nat),IntKind.i64.wrap (enP s:Nat)⟩=vz s/\(vz s=true->enG s=⟨jR (s.extract 0 8),IntKind.i64.wrap (enV s:Nat),IntKind.i64.wrap (enP s:Nat)⟩):=by
 have a:=Yo (enV s) (pW _);have b:=Yo (enP s) (pW _);constructor
 ·unfold mayE vz;rw[decide_eq_decide];simp only;rw[a.1,b.1];exact⟨fun h=>⟨d,h⟩,fun h=>h.2⟩
 ·intro h;have c:=of_decide_eq_true h;unfold enG;rw[qV h,a.2 c.2.1,b.2 c.2.2]
theorem Ow(s:Tw)(w:World)(f:s.size<=maxLen)(r:s.size≠24):
  Calls prog 213 #[.string s] w fun e w'=>e = .returned (.tuple #[kS ⟨0,0,0⟩,.bool false])/\Below w.heap.size w w':=by
 unfold maxLen at f;have t:((s.size:Int) != 24)=true:=by simp;omega
 have a:yj (w.alloc (.cells #[.int .u64 ((0:Nat):Int),.int .i64 0,.int .i64 0] 63)) w.heap.size 0 0 0:=jY.new _ _ _;have d:=(Below.refl w.heap.size w).alloc (qK _) (.cells #[.int .u64 ((0:Nat):Int),.int .i64 0,.int .i64 0] 63);obtain⟨c,b⟩:∃c,w.alloc (.cells #[.int .u64 ((0:Nat):Int),.int .i64 0,.int .i64 0] 63)=c:=⟨_,rfl⟩
 rw[b]at a d;have q:w.alloc (.cells #[.int .u64 0,.int .i64 0,.int .i64 0] 63)=c:=b;clear b;obtain⟨g,i,j,n,o,p⟩:=a.facts;clear a;go_enter func213,ntmps213;go_wp2;exact bodyPost_ret (v:=.tuple #[kS ⟨0,0,0⟩,.bool false]) (by simp[results,Tryz.results213,go_sem,g,i,j]) rfl ⟨rfl,tE d (qK _) _ _ _⟩
theorem PQ(s:Tw)(w:World)(O:s.size=24):
  Calls prog 213 #[.string s] w fun e w'=>e = .returned (.tuple #[kS (enG s),.bool (vz s)])/\Below w.heap.size w w':=by
 have I:=qQ fun W=>cA (s.extract 0 8) W (by unfold maxLen;rw[qT];omega)
 have J:=qQ fun W=>cA (s.extract 8 16) W (by unfold maxLen;rw[qT];omega)
 have K:=qQ fun W=>cA (s.extract 16 24) W (by unfold maxLen;rw[qT];omega)
 obtain⟨G,q⟩:=Oo O;have g:=fun W=>ZI ⟨jR (s.extract 0 8),IntKind.i64.wrap (enV s:Nat),IntKind.i64.wrap (enP s:Nat)⟩ W
 rw[G]at g;have i:=qQ g;have C:=Yq (s:=s);unfold enV enP at*;clear g G;generalize jR (s.extract 0 8)=h at*;generalize jR (s.extract 8 16)=Q at*;generalize jR (s.extract 16 24)=P at*;obtain⟨v,M⟩:∃v,IntKind.i64.wrap (Q:Int)=v:=⟨_,rfl⟩
 obtain⟨p,L⟩:∃p,IntKind.i64.wrap (P:Int)=p:=⟨_,rfl⟩
 rw[M,L]at i q;have t:((s.size:Int) != 24)=false:=by simp;omega
 have a:yj (w.alloc (.cells #[.int .u64 ((0:Nat):Int),.int .i64 0,.int .i64 0] 63)) w.heap.size 0 0 0:=jY.new _ _ _;have j:=(Below.refl w.heap.size w).alloc (qK _) (.cells #[.int .u64 ((0:Nat):Int),.int .i64 0,.int .i64 0] 63);obtain⟨r,o⟩:∃r,w.alloc (.cells #[.int .u64 ((0:Nat):Int),.int .i64 0,.int .i64 0] 63)=r:=⟨_,rfl⟩
 rw[o]at a j;have N:w.alloc (.cells #[.int .u64 0,.int .i64 0,.int .i64 0] 63)=r:=o;clear o;have u:=qQ (a.zL h);obtain⟨c,d,f,z,A,B⟩:=a.facts;clear a;cases b:vz s
 all_goals
  rw[b]at i
  first | rw[C b] | rw[q b]
  clear C q b;go_enter func213,ntmps213;go_wp2_with fail;refine(I.out _).mono ?_;rintro e w'⟨rfl,rfl⟩;go_wp2_with fail;refine(J.out _).mono ?_;rintro e w'⟨rfl,rfl⟩;go_wp2_with fail;refine(K.out _).mono ?_;rintro e w'⟨rfl,rfl⟩;have y:=qQ ((u.out.zr v).zx p);have D:=tE j (qK _) (.int .u64 (h:Nat)) (.int .i64 v) (.int .i64 p);clear u;go_wp2_with fail;refine(i.out _).mono ?_;rintro e R⟨rfl,n⟩;have F:=bj D n;have H:yj R w.heap.size h v p:=jY.below y.out n;clear c d f z A B n D y j N;obtain⟨c,d,f,z,A,B⟩:=H.facts;go_wp2
  first
  | exact bodyPost_ret (v:=.tuple #[kS ⟨0,0,0⟩,.bool false]) (by simp[results,Tryz.results213,go_sem,c,d,f]) rfl ⟨rfl,tE F (qK _) _ _ _⟩
  | exact bodyPost_ret (v:=.tuple #[kS ⟨h,v,p⟩,.bool true]) (by simp[results,Tryz.results213,go_sem,c,d,f]) rfl ⟨rfl,tE F (qK _) _ _ _⟩
theorem Yw(s:Tw)(w:World)(b:s.size<=maxLen):
  Calls prog 213 #[.string s] w fun e w'=>e = .returned (.tuple #[kS (enG s),.bool (vz s)])/\Below w.heap.size w w':=by
 by_cases a:s.size=24
 ·exact PQ s w a
 ·have h:=OH a;rw[Yq h,h];exact Ow s w b a
end
section
open Go.RowKit Go.Shelf
theorem PX: Enters prog 260:=enters_of func260 (by kernel_rfl) rfl
theorem PZ: Enters prog 261:=enters_of func261 (by kernel_rfl) rfl
theorem PJ(x y:jJ)(g:Nat)(W:World)(b:yj W g y.h y.v y.p):
  Calls prog 260 #[kS x,.pointer (some ⟨g,0,none⟩)] W fun e d=>e = .returned (.bool (jT x y))/\Below W.heap.size W d:=by
 have c:=qQ fun W=>oK x y W
 have a:yj (W.alloc (.cells #[.int .u64 (x.h:Nat),.int .i64 x.v,.int .i64 x.p] 63)) g y.h y.v y.p:=jY.alloc b _;obtain⟨n,o,q,-,-,-⟩:=a.facts;have f:=(Below.refl W.heap.size W).alloc (qK _) (.cells #[.int .u64 (x.h:Nat),.int .i64 x.v,.int .i64 x.p] 63);clear b a;obtain⟨h,v,p⟩:=x;obtain⟨j,v',r⟩:=y;go_enter func260,ntmps260;go_wp2_with fail;refine(c.out _).mono ?_;rintro e s⟨rfl,i⟩;go_wp2;go_ret;exact⟨rfl,bj f i⟩
theorem PV(x y:jJ)(g:Nat)(W:World)(b:yj W g y.h y.v y.p):
  Calls prog 261 #[kS x,.pointer (some ⟨g,0,none⟩)] W fun e d=>e = .returned (.bool (!jT y x))/\Below W.heap.size W d:=by
 have c:=qQ fun W=>oK y x W
 have a:yj (W.alloc (.cells #[.int .u64 (x.h:Nat),.int .i64 x.v,.int .i64 x.p] 63)) g y.h y.v y.p:=jY.alloc b _;obtain⟨n,o,q,-,-,-⟩:=a.facts;have f:=(Below.refl W.heap.size W).alloc (qK _) (.cells #[.int .u64 (x.h:Nat),.int .i64 x.v,.int .i64 x.p] 63);clear b a;obtain⟨h,v,p⟩:=x;obtain⟨j,v',r⟩:=y;go_enter func261,ntmps261;go_wp2_with fail;refine(c.out _).mono ?_;rintro e s⟨rfl,i⟩;go_wp2;go_ret;exact⟨rfl,bj f i⟩
def mT(l:List jJ)(h:Nat)(v:Int):Nat:=l.countP (bg h v)
theorem UQ{l:List jJ}(a:jh l)(h:Nat)(v:Int):bc (uw h v) l (mP l h v):=oX (Yy h v) a
theorem UX{l:List jJ}(a:jh l)(h:Nat)(v:Int):bc (bg h v) l (mT l h v):=oX (Yu h v) a
theorem tF(q:jJ->Bool)(l:List jJ):l.countP q<=l.length:=List.countP_le_length
theorem PY{x:jJ}{h:Nat}{v:Int}(a:kI x):jT x ⟨h,v,-9223372036854775808⟩=uw h v x:=by
 unfold jT uw;rw[decide_eq_decide];have:=a.p0;simp only;omega
theorem PU{x:jJ}{h:Nat}{v:Int}(a:kI x):(!jT ⟨h,v,9223372036854775807⟩ x)=bg h v x:=by
 unfold jT bg;rw[<-decide_not,decide_eq_decide];have:=a.p1;simp only;omega
theorem PG(v:Value)(l:List jJ)(h:Nat)(n:Int)(w:World)(j:ju w v l)(p:l.length<=1000000)(q:∀x∈l,kI x)(r:jh l):
  Calls prog 218 #[v,.int .u64 (h:Nat),.int .i64 n] w fun e w'=>e = .returned (.int .i64 (mP l h n:Nat))/\Below w.heap.size w w':=by
 have b:yj (w.alloc (.cells #[.int .u64 (h:Nat),.int .i64 n,.int .i64 (-9223372036854775808)] 63)) w.heap.size h n (-9223372036854775808):=jY.new _ _ _;have a:=(Below.refl w.heap.size w).alloc (qK _) (.cells #[.int .u64 (h:Nat),.int .i64 n,.int .i64 (-9223372036854775808)] 63);have o:=j.below a (qK _);have D:∀(d:Fn) (first c:Array Value) (w:World),(Instr.makeFunc d first c).run prog w = .ok (.func d first c) w:=fun _ _ _ _=>rfl
 have g:Enters prog 260:=PX
 have hcut:bc (fun x=>jT x ⟨h,n,-9223372036854775808⟩) l (mP l h n):=fun i x s=>by
  have:=UQ r h n i x s;rw[<-this];exact PY (q x (qM s))
 have B:mP l h n<=l.length:=tF _ l;generalize mP l h n=K at*;have y:=qQ (Ys 260 w.heap.size (fun x=>jT x ⟨h,n,-9223372036854775808⟩) v l _ o p g (fun x W z=>PJ x ⟨h,n,-9223372036854775808⟩ w.heap.size W (jY.below b z)));have u:=qQ hcut;have t:=qQ a;clear j p q r b o hcut a g;go_enter func218,ntmps218;go_wp2_with fail;refine y.out.mono ?_;rintro e F⟨k,C,rfl,f,A⟩;obtain rfl:=f K B u.out;clear f;go_wp2;go_ret;exact⟨rfl,bj t.out A⟩
theorem PW(v:Value)(l:List jJ)(h:Nat)(n:Int)(w:World)(j:ju w v l)(p:l.length<=1000000)(q:∀x∈l,kI x)(r:jh l):
  Calls prog 219 #[v,.int .u64 (h:Nat),.int .i64 n] w fun e w'=>e = .returned (.int .i64 (mT l h n:Nat))/\Below w.heap.size w w':=by
 have b:yj (w.alloc (.cells #[.int .u64 (h:Nat),.int .i64 n,.int .i64 9223372036854775807] 63)) w.heap.size h n 9223372036854775807:=jY.new _ _ _;have a:=(Below.refl w.heap.size w).alloc (qK _) (.cells #[.int .u64 (h:Nat),.int .i64 n,.int .i64 9223372036854775807] 63);have o:=j.below a (qK _);have D:∀(d:Fn) (first c:Array Value) (w:World),(Instr.makeFunc d first c).run prog w = .ok (.func d first c) w:=fun _ _ _ _=>rfl
 have g:Enters prog 261:=PZ
 have hcut:bc (fun x=>!jT ⟨h,n,9223372036854775807⟩ x) l (mT l h n):=fun i x s=>by
  have:=UX r h n i x s;rw[<-this];exact PU (q x (qM s))
 have B:mT l h n<=l.length:=tF _ l;generalize mT l h n=K at*;have y:=qQ (Ys 261 w.heap.size (fun x=>!jT ⟨h,n,9223372036854775807⟩ x) v l _ o p g (fun x W z=>PV x ⟨h,n,9223372036854775807⟩ w.heap.size W (jY.below b z)));have u:=qQ hcut;have t:=qQ a;clear j p q r b o hcut a g;go_enter func219,ntmps219;go_wp2_with fail;refine y.out.mono ?_;rintro e F⟨k,C,rfl,f,A⟩;obtain rfl:=f K B u.out;clear f;go_wp2;go_ret;exact⟨rfl,bj t.out A⟩
theorem UZ(A:Option Addr)(n c:Nat)(w:World):(binOp .eql 37 (.slice A n c) (.slice none 0 0)).run prog w = .ok (.bool A.isNone) w:=by
 have a:=run_equal_slice_nil (P:=prog) w 37 63 A n c Tryz.underlying37;simp only[binOp];simp[a]
def yd(w:World)(l:List jJ)(e:Ending)(w':World):Prop:=∃A c,e = .returned (.slice A l.length c)/\jE w' w.heap.size (.slice A l.length c) l/\Below w.heap.size w w'
theorem UJ(v:Value)(l:List jJ)(w:World)(h:ju w v l)(r:l.length<=500000):Calls prog 96 #[v] w (yd w l):=by
 obtain⟨A,off,n,rfl,-,-⟩:=h.form;cases A with
 | none =>
   have G:l=[]:=by
    rcases h with⟨e,_⟩|⟨b,J,I,e,_⟩
    ·exact e
    ·cases e
   subst G;have H:=fun W=>UZ none 0 n W
   clear h r;go_enter func96,ntmps96;go_wp2;go_ret;exact⟨none,0,rfl,jE.nil _ _,Below.refl _ _⟩
 | some a =>
   have f:=(Below.refl w.heap.size w).alloc (qK _) (.cells #[] 63);have s:jE (w.alloc (.cells #[] 63)) w.heap.size (.slice (some ⟨w.heap.size,0,none⟩) 0 0) []:=World.ownsRow_made w #[] 0 (qK _) (qF _) rfl;have p:=h.below f (qK _);obtain⟨u,C,K,c,d,o,D⟩:=oU s p (by simp;omega) (by simp) 37;have q:=f.trans (lz o (B:=w.heap.size) (by simp) (fun k F=>by simp[Value.ownBlock]at F;omega));have z:=qQ q;rw[List.nil_append]at d;have t:([]:List jJ).length+l.length=l.length:=(by simp);rw[t]at c d;have i:=qQ d;clear h r f s p d o D q t;obtain⟨m,g⟩:∃m,m=l.length:=⟨_,rfl⟩
   have j:=qQ g;rw[<-g]at c i ⊢;clear g;have y:=qQ c;have H:=fun W=>UZ (some a) m n W
   clear c;go_enter func96,ntmps96;go_wp2_with (first | (at_builtin;refine yI rfl _ _ rfl rfl rfl y.out ?_) | fail);go_ret;exact⟨u,C,by rw[<-j.out];rfl,by rw[<-j.out];exact i.out,z.out⟩
theorem oG{w:World}{A:Option Addr}{n c i:Nat}{l:List jJ}{x:jJ}(h:ju w (.slice A n c) l)(g:l[i]? = some x):∃b off,A=some ⟨b,off,none⟩/\n=l.length/\b<w.heap.size/\w.cell? ⟨b,off+i*3,none⟩=some (.int .u64 (x.h:Nat))/\w.cell? ⟨b,off+i*3+1,none⟩=some (.int .i64 x.v)/\w.cell? ⟨b,off+i*3+2,none⟩=some (.int .i64 x.p):=by
 obtain⟨j,off,o,e,_,f⟩:=h.form;obtain⟨rfl,rfl,rfl⟩:=Value.slice.inj e;obtain⟨b,a,d⟩:=f i x g;exact⟨b,off,a,rfl,d⟩
theorem UK(v:Value)(l:List jJ)(h:Nat)(a b:Int)(w:World)(c:ju w v l)(hn:l.length<=500000)(u:∀x∈l,kI x)(f:jh l):
  Calls prog 181 #[v,.int .u64 (h:Nat),.int .i64 a,.int .i64 b] w (yd w (kZ l h a b)):=by
 have y:=qQ (PG v l h a w c (by omega) u f);have z:=qQ fun W o=>PW v l h b W (c.below o (qK _)) (by omega) u f
 have s:=ON (UQ f h a) (UX f h b);have l1:mP l h a<=l.length:=tF _ l;have T:mT l h b<=l.length:=tF _ l;have K:=qQ s;rw[s];generalize mP l h a=i at*;generalize mT l h b=j at*;obtain⟨A,off,D,rfl,-,-⟩:=c.form;clear s u f;by_cases R:i<j
 ·obtain⟨Y,c',hs,H⟩:=Ob c (Nat.le_of_lt R) T;have G:((l.drop i).take (j-i)).length=j-i:=by rw[qS,List.length_drop];omega
  have J:=qQ fun B W O o=>UJ _ _ W (H B W O o) (by rw[G];omega)
  have t:decide ((j:Int)<=(i:Int))=false:=qW (by omega);clear H c G;generalize l.length=n at*;generalize (l.drop i).take (j-i)=L at*;go_enter func181,ntmps181;go_wp2_with fail;refine y.out.mono ?_;rintro e U⟨rfl,d⟩;go_wp2_with fail;refine(z.out _ d).mono ?_;rintro e X⟨rfl,q⟩;have p:=bj d q;go_wp2_with fail;refine(J.out _ _ (qK _) p).mono ?_;rintro e w3⟨Z,c3,rfl,I,P⟩;have C:=qQ I;clear I;go_wp2;go_ret
  exact⟨_,_,rfl,⟨C.out.1,by
   rcases C.out.2 with N|⟨g,D,M,S,Q,r⟩
   ·exact qX N
   ·exact qY ⟨g,D,M,S,qO p.size Q,r⟩⟩,bj p P⟩
 ·have F:(l.drop i).take (j-i)=[]:=by rw[show j-i=0 by omega,List.take_zero]
  rw[F];have t:decide ((j:Int)<=(i:Int))=true:=qA (by omega);clear c K F;generalize l.length=n at*;go_enter func181,ntmps181;go_wp2_with fail;refine y.out.mono ?_;rintro e U⟨rfl,d⟩;go_wp2_with fail;refine(z.out _ d).mono ?_;rintro e X⟨rfl,q⟩;go_wp2;go_ret;exact⟨none,0,rfl,jE.nil _ _,bj d q⟩
end
section
open Go.RowKit
theorem fm{a W:World}{p:Addr}{v:Value}(h:Below a.heap.size a W)(c:p.block<a.heap.size)(b:a.cell? p=some v):W.cell? p=some v:=(h.cell c).trans b
theorem oW{f:Nat}{w1:World}{b h v p n:Nat}(i:n<18446744073709551616)(g:∀W,Calls prog f #[.int .u64 (n:Nat),.int .i64 8] W fun e w'=>e = .returned (.string (bs (be 8 n)))/\Below W.heap.size W w')(W:World)
  (a:Below w1.heap.size w1 W/\W.cell? ⟨b,0,none⟩=some (.int .u64 (h:Nat))/\W.cell? ⟨b,1,none⟩=some (.int .i64 (v:Nat))/\W.cell? ⟨b,2,none⟩=some (.int .i64 (p:Nat))):
  Calls prog f #[.int .u64 (n:Nat),.int .i64 8] W fun e w'=>e = .returned (.string (bs (be 8 n)))/\Below w1.heap.size w1 w':=(g W).mono fun e w' ⟨d,c⟩=>⟨d,bj a.1 c⟩
theorem PA(x:jJ)(w:World)(b:mayE x=false):
  Calls prog 70 #[kS x] w fun e w'=>e = .returned (.string (kP x))/\Below w.heap.size w w':=by
 have a:=fun W=>ZI x W
 rw[b]at a;rw[oQ b];have c:=qQ a;obtain⟨h,v,p⟩:=x;clear a b;go_enter func70,ntmps70;go_wp2_with fail;refine(c.out _).mono ?_;rintro e f⟨rfl,d⟩;go_wp2;go_ret;exact⟨rfl,((Below.refl _ _).alloc (qK _) _).trans (d.mono (by simp))⟩
theorem PB(h v p:Nat)(w:World)(u:h<18446744073709551616)(F:v<9223372036854775808)(D:p<9223372036854775808):
  Calls prog 70 #[kS ⟨h,(v:Nat),(p:Nat)⟩] w fun e w'=>e = .returned (.string (kP ⟨h,(v:Nat),(p:Nat)⟩))/\Below w.heap.size w w':=by
 have g:mayE ⟨h,(v:Nat),(p:Nat)⟩=true:=qA ⟨by show(0:Int)<=(v:Int);omega,by show(0:Int)<=(p:Int);omega⟩;have f:=fun W=>ZI ⟨h,(v:Nat),(p:Nat)⟩ W
 rw[g]at f;have i:=qQ f;have j:=qQ fun W=>gC h 8 W (by omega) (by omega) u
 have o:=qQ fun W=>gC v 8 W (by omega) (by omega) (by omega)
 have q:=qQ fun W=>gC p 8 W (by omega) (by omega) (by omega)
 have d:=qQ (qU u (qU F D));have y:(bs (be 8 h)).size=8:=by rw[ji,jq]
 have z:(bs (be 8 v)).size=8:=by rw[ji,jq]
 have K:(bs (be 8 p)).size=8:=by rw[ji,jq]
 have e:kP ⟨h,(v:Nat),(p:Nat)⟩=bs (be 8 h)++bs (be 8 v)++bs (be 8 p):=by
  unfold kP;rw[qV g,uh,uh];unfold uV;rw[qb];rfl
 have R:∀w:World,(Op.stringOp .add (bs (be 8 h)) (bs (be 8 v))).run prog w = .ok (.string (bs (be 8 h)++bs (be 8 v))) w:=fun w=>run_string_add_sum (P:=prog) (w:=w) _ _ (by omega)
 have L:(bs (be 8 h)++bs (be 8 v)).size=16:=by rw[qy,y,z]
 have S:∀w:World,(Op.stringOp .add (bs (be 8 h)++bs (be 8 v)) (bs (be 8 p))).run prog w = .ok (.string (kP ⟨h,(v:Nat),(p:Nat)⟩)) w:=fun w=>by rw[e];exact run_string_add_sum (P:=prog) (w:=w) _ _ (by omega)
 generalize kP ⟨h,(v:Nat),(p:Nat)⟩=X at*;clear e f g;go_enter func70,ntmps70;go_wp2_with fail;refine(i.out _).mono ?_;rintro e w1⟨rfl,a⟩;have G:=a.size;rw[World.size_alloc]at G;have H:w1.cell? ⟨w.heap.size,0,none⟩=some (.int .u64 (h:Nat)):=fm a (by simp) (World.cell?_alloc_at _ _ _ _ rfl);have I:w1.cell? ⟨w.heap.size,1,none⟩=some (.int .i64 (v:Nat)):=fm a (by simp) (World.cell?_alloc_at _ _ _ _ rfl);have J:w1.cell? ⟨w.heap.size,2,none⟩=some (.int .i64 (p:Nat)):=fm a (by simp) (World.cell?_alloc_at _ _ _ _ rfl);have t:Below w.heap.size w w1:=((Below.refl _ _).alloc (qK _) _).trans (a.mono (by simp))
 have r:Hid (∀W,Below w1.heap.size w1 W->Below w1.heap.size w1 W/\W.cell? ⟨w.heap.size,0,none⟩=some (.int .u64 (h:Nat))/\W.cell? ⟨w.heap.size,1,none⟩=some (.int .i64 (v:Nat))/\W.cell? ⟨w.heap.size,2,none⟩=some (.int .i64 (p:Nat))) :=
  qQ fun W c=>⟨c,fm c (show w.heap.size<_ by omega) H,fm c (show w.heap.size<_ by omega) I,fm c (show w.heap.size<_ by omega) J⟩
 have A:=qQ (oW (w1:=w1) (b:=w.heap.size) (h:=h) (v:=v) (p:=p) d.out.1 j.out);have B:=qQ (oW (w1:=w1) (b:=w.heap.size) (h:=h) (v:=v) (p:=p) (n:=v) (by have:=d.out;omega) o.out);have C:=qQ (oW (w1:=w1) (b:=w.heap.size) (h:=h) (v:=v) (p:=p) (n:=p) (by have:=d.out;omega) q.out);generalize bs (be 8 h)++bs (be 8 v)=N at*;generalize bs (be 8 h)=M at*;generalize bs (be 8 v)=O at*;generalize bs (be 8 p)=Q at*;have T:IntKind.u64.wrap ((v:Nat):Int)=(v:Nat):=IntWalk.u64_in _ ⟨by omega,by omega⟩;have U:IntKind.u64.wrap ((p:Nat):Int)=(p:Nat):=IntWalk.u64_in _ ⟨by omega,by omega⟩;clear a j o q i y z K L;go_wp2_with fail
 go_region_held3 (fun W=>Below w1.heap.size w1 W/\W.cell? ⟨w.heap.size,0,none⟩=some (.int .u64 (h:Nat))/\W.cell? ⟨w.heap.size,1,none⟩=some (.int .i64 (v:Nat))/\W.cell? ⟨w.heap.size,2,none⟩=some (.int .i64 (p:Nat)))
  (first | assumption | exact r.out _ (by assumption) | exact r.out _ (Below.refl _ _).drew | fail) (first
  | (go_at_call 58;((with_reducible refine(A.out _ (by assumption)).mono ?_);rintro e w'⟨rfl,s⟩))
  | (go_at_call 58;((with_reducible refine(B.out _ (by assumption)).mono ?_);rintro e w'⟨rfl,s⟩))
  | (go_at_call 58;((with_reducible refine(C.out _ (by assumption)).mono ?_);rintro e w'⟨rfl,s⟩))
  | fail)
 all_goals
  go_wp2;go_ret;exact⟨rfl,t.trans ((And.left (‹Below w1.heap.size w1 _/\_›)).mono t.size)⟩
theorem UV{x:jJ}(b:kI x)(a:mayE x=true):∃v p:Nat,x=⟨x.h,(v:Nat),(p:Nat)⟩/\v<9223372036854775808/\p<9223372036854775808:=by
 have h:=of_decide_eq_true a;obtain⟨c,d,f,g,i⟩:=b;exact⟨x.v.toNat,x.p.toNat,nr rfl (by show x.v=((x.v.toNat:Nat):Int);omega) (by show x.p=((x.p.toNat:Nat):Int);omega),by omega,by omega⟩
theorem UY(x:jJ)(w:World)(b:kI x):
  Calls prog 70 #[kS x] w fun e w'=>e = .returned (.string (kP x))/\Below w.heap.size w w':=by
 cases a:mayE x with
 | false=>exact PA x w a
 | true =>
   obtain⟨v,p,e,d,c⟩:=UV b a;rw[e];exact PB x.h v p w b.h d c
theorem PC(x y:jJ)(w:World):
  Calls prog 133 #[kS x,kS y] w fun e w'=>e = .returned (.bool (jT x y))/\Below w.heap.size w w':=by
 obtain⟨h,v,p⟩:=x;obtain⟨a,v',d⟩:=y;have b:=Yr w (.cells #[.int .u64 (h:Nat),.int .i64 v,.int .i64 p] 63) (.cells #[.int .u64 (a:Nat),.int .i64 v',.int .i64 d] 63);have e:=nh (x:=⟨h,v,p⟩) (y:=⟨a,v',d⟩);simp only at e;generalize jT ⟨h,v,p⟩ ⟨a,v',d⟩=q at*;by_cases c:h=a
 ·subst c;by_cases c:v=v'
  ·subst c;by_cases c:p<d
   ·obtain rfl:q=true:=e.2 (by omega);clear e;go_enter func133,ntmps133;go_wp2;go_ret;exact⟨rfl,b⟩
   ·obtain rfl:q=false:=Bool.eq_false_iff.2 (fun t=>by have:=e.1 t;omega);clear e;go_enter func133,ntmps133;go_wp2;go_ret;exact⟨rfl,b⟩
  ·by_cases c2:v<v'
   ·obtain rfl:q=true:=e.2 (by omega);clear e;go_enter func133,ntmps133;go_wp2;go_ret;exact⟨rfl,b⟩
   ·obtain rfl:q=false:=Bool.eq_false_iff.2 (fun t=>by have:=e.1 t;omega);clear e;go_enter func133,ntmps133;go_wp2;go_ret;exact⟨rfl,b⟩
 ·by_cases c2:h<a
  ·obtain rfl:q=true:=e.2 (by omega);clear e;have f:decide ((h:Int)<(a:Int))=true:=qA (by omega);go_enter func133,ntmps133;go_wp2;go_ret;exact⟨rfl,b⟩
  ·obtain rfl:q=false:=Bool.eq_false_iff.2 (fun t=>by have:=e.1 t;omega);clear e;have g:((h:Int)==(a:Int))=false:=qv.2 (by omega);have f:decide ((h:Int)<(a:Int))=false:=qW (by omega);go_enter func133,ntmps133;go_wp2;go_ret;exact⟨rfl,b⟩
theorem PD(x:jJ)(w:World)(a:mayE x=false):
  Calls prog 68 #[kS x] w fun e w'=>e = .returned (.string (kP x))/\Below w.heap.size w w':=by
 rw[oQ a];have h:=of_decide_eq_false a;obtain⟨f,v,p⟩:=x;have b:¬(0<=v/\0<=p):=h;clear h a;have d:=(Below.refl w.heap.size w).alloc (qK _) (.cells #[.int .u64 (f:Nat),.int .i64 v,.int .i64 p] 63);by_cases c:v<0
 ·clear b;go_enter func68,ntmps68;go_wp2;go_ret;exact⟨rfl,d⟩
 ·have c2:p<0:=by omega
  clear b;go_enter func68,ntmps68;go_wp2;go_ret;exact⟨rfl,d⟩
theorem PE(h v p:Nat)(w:World)(r:h<18446744073709551616)(C:v<9223372036854775808)(B:p<9223372036854775808):
  Calls prog 68 #[kS ⟨h,(v:Nat),(p:Nat)⟩] w fun e w'=>e = .returned (.string (kP ⟨h,(v:Nat),(p:Nat)⟩))/\Below w.heap.size w w':=by
 have s:mayE ⟨h,(v:Nat),(p:Nat)⟩=true:=qA ⟨by show(0:Int)<=(v:Int);omega,by show(0:Int)<=(p:Int);omega⟩;have f:=qQ fun W=>XP h 8 W (by omega) (by omega) r
 have g:=qQ fun W=>XP v 8 W (by omega) (by omega) (by omega)
 have i:=qQ fun W=>XP p 8 W (by omega) (by omega) (by omega)
 have d:=qQ (qU r (qU C B));have t:(bs (be 8 h)).size=8:=by rw[ji,jq]
 have u:(bs (be 8 v)).size=8:=by rw[ji,jq]
 have H:(bs (be 8 p)).size=8:=by rw[ji,jq]
 have e:kP ⟨h,(v:Nat),(p:Nat)⟩=bs (be 8 h)++bs (be 8 v)++bs (be 8 p):=by
  unfold kP;rw[qV s,uh,uh];unfold uV;rw[qb];rfl
 have N:∀w:World,(Op.stringOp .add (bs (be 8 h)) (bs (be 8 v))).run prog w = .ok (.string (bs (be 8 h)++bs (be 8 v))) w:=fun w=>run_string_add_sum (P:=prog) (w:=w) _ _ (by omega)
 have I:(bs (be 8 h)++bs (be 8 v)).size=16:=by rw[qy,t,u]
 have O:∀w:World,(Op.stringOp .add (bs (be 8 h)++bs (be 8 v)) (bs (be 8 p))).run prog w = .ok (.string (kP ⟨h,(v:Nat),(p:Nat)⟩)) w:=fun w=>by rw[e];exact run_string_add_sum (P:=prog) (w:=w) _ _ (by omega)
 generalize kP ⟨h,(v:Nat),(p:Nat)⟩=X at*;clear e s;go_enter func68,ntmps68;obtain⟨w1,a⟩:∃w1,w.alloc (.cells #[.int .u64 (h:Nat),.int .i64 (v:Nat),.int .i64 (p:Nat)] 63)=w1:=⟨_,rfl⟩
 have Q:w.heap.size+1=w1.heap.size:=by rw[<-a];simp
 have D:w1.cell? ⟨w.heap.size,0,none⟩=some (.int .u64 (h:Nat)):=by rw[<-a];exact World.cell?_alloc_at _ _ _ _ rfl
 have F:w1.cell? ⟨w.heap.size,1,none⟩=some (.int .i64 (v:Nat)):=by rw[<-a];exact World.cell?_alloc_at _ _ _ _ rfl
 have G:w1.cell? ⟨w.heap.size,2,none⟩=some (.int .i64 (p:Nat)):=by rw[<-a];exact World.cell?_alloc_at _ _ _ _ rfl
 have q:Below w.heap.size w w1:=by rw[<-a];exact(Below.refl _ _).alloc (qK _) _
 have j:Hid (∀W,Below w1.heap.size w1 W->Below w1.heap.size w1 W/\W.cell? ⟨w.heap.size,0,none⟩=some (.int .u64 (h:Nat))/\W.cell? ⟨w.heap.size,1,none⟩=some (.int .i64 (v:Nat))/\W.cell? ⟨w.heap.size,2,none⟩=some (.int .i64 (p:Nat))) :=
  qQ fun W c=>⟨c,fm c (show w.heap.size<_ by omega) D,fm c (show w.heap.size<_ by omega) F,fm c (show w.heap.size<_ by omega) G⟩
 have y:=qQ (oW (w1:=w1) (b:=w.heap.size) (h:=h) (v:=v) (p:=p) d.out.1 f.out);have z:=qQ (oW (w1:=w1) (b:=w.heap.size) (h:=h) (v:=v) (p:=p) (n:=v) (by have:=d.out;omega) g.out);have A:=qQ (oW (w1:=w1) (b:=w.heap.size) (h:=h) (v:=v) (p:=p) (n:=p) (by have:=d.out;omega) i.out);generalize bs (be 8 h)++bs (be 8 v)=K at*;generalize bs (be 8 h)=J at*;generalize bs (be 8 v)=L at*;generalize bs (be 8 p)=M at*;have R:IntKind.u64.wrap ((v:Nat):Int)=(v:Nat):=IntWalk.u64_in _ ⟨by omega,by omega⟩;have S:IntKind.u64.wrap ((p:Nat):Int)=(p:Nat):=IntWalk.u64_in _ ⟨by omega,by omega⟩;clear f g i t u H I;go_wp2_with fail
 go_region_held3 (fun W=>Below w1.heap.size w1 W/\W.cell? ⟨w.heap.size,0,none⟩=some (.int .u64 (h:Nat))/\W.cell? ⟨w.heap.size,1,none⟩=some (.int .i64 (v:Nat))/\W.cell? ⟨w.heap.size,2,none⟩=some (.int .i64 (p:Nat)))
  (first | assumption | exact j.out _ (by assumption) | exact j.out _ (Below.refl _ _).drew | fail) (first
  | (go_at_call 132;((with_reducible refine(y.out _ (by assumption)).mono ?_);rintro e w'⟨rfl,o⟩))
  | (go_at_call 132;((with_reducible refine(z.out _ (by assumption)).mono ?_);rintro e w'⟨rfl,o⟩))
  | (go_at_call 132;((with_reducible refine(A.out _ (by assumption)).mono ?_);rintro e w'⟨rfl,o⟩))
  | fail)
 all_goals
  go_wp2;go_ret;exact⟨rfl,q.trans ((And.left (‹Below w1.heap.size w1 _/\_›)).mono q.size)⟩
theorem PF(x:jJ)(w:World)(b:kI x):
  Calls prog 68 #[kS x] w fun e w'=>e = .returned (.string (kP x))/\Below w.heap.size w w':=by
 cases a:mayE x with
 | false=>exact PD x w a
 | true =>
   obtain⟨v,p,e,d,c⟩:=UV b a;rw[e];exact PE x.h v p w b.h d c
end
section
open Go.RowKit Go.Shelf
theorem oA{z:Array Oper}{o:Oper}{a:Act}{w:World}{K:Act->World->Prop}{Q:Exit->Act->World->Prop}{E:Prop}{vs b:Value}{base:Nat}{l m:List jJ}(n:o.guard=none)(s x:Operand)
  (q:o.op = .call { callee:=.builtin .append,args:=#[s,x],argTypes:=#[37,37] }) (t:a.eval s=vs) (y:a.eval x=b)
  (r:jE w base vs l) (u:ju w b m) (p:l.length+m.length<=1000000) (j:base<=w.heap.size)
  (h:∀v' w',jE w' base v' (l++m)->w.grownBy w' vs.ownBlock->(v'.ownBlock=vs.ownBlock∨v'.ownBlock=some w.heap.size)->K (a.put o.dst v') w'):
  if Region.wanted o (yielded z a.tmps)=true then Oper.wp prog o a w K Q else E:=by
 obtain⟨A,c,w',d,f,g,i⟩:=oU r u p j o.type;exact KY n s x _ q t y d (h _ w' f g i)
theorem jE.shape{w:World}{base:Nat}{v:Value}{l:List jJ}(h:jE w base v l):∃A c,v = .slice A l.length c/\jE w base (.slice A l.length c) l:=by
 obtain⟨A,c,rfl,-,-,-⟩:=yw h;exact⟨A,c,rfl,h⟩
section
variable {wc W V:World}{vs v':Value}{base:Nat}
theorem bd(h:Below wc.heap.size wc W)(o:Obj):Below wc.heap.size wc (W.alloc o):=h.alloc h.size o
theorem oB(h:Below wc.heap.size wc W)(b:W.grownBy V vs.ownBlock)(a:∀k,vs.ownBlock=some k->wc.heap.size<=k):Below wc.heap.size wc V:=h.trans (lz b h.size a)
theorem tH: ∀k,(Value.slice none 0 0).ownBlock=some k->wc.heap.size<=k:=fun k h=>by cases h
theorem rZ(h:Below wc.heap.size wc W)(c:∀k,vs.ownBlock=some k->wc.heap.size<=k)(b:v'.ownBlock=vs.ownBlock∨v'.ownBlock=some W.heap.size):∀k,v'.ownBlock=some k->wc.heap.size<=k:=by
 intro k a;rcases b with e|e
 ·exact c k (e.symm.trans a)
 ·rw[e]at a;injection a with a;rw[<-a];exact h.size
theorem jE.alloc{w:World}{base:Nat}{v:Value}{l:List jJ}(h:jE w base v l)(o:Obj):jE (w.alloc o) base v l:=jE.below h ((Below.refl w.heap.size w).alloc (qK _) o) (qK _)
theorem ju.drew{w:World}{v:Value}{l:List jJ}(h:ju w v l):ju w.drew v l:=h
theorem ju.zl{w w':World}{v:Value}{l:List jJ}(h:ju w v l)(a:w.grownBy w' (Value.slice none 0 0).ownBlock):ju w' v l:=h.below (lz a (qK _) (fun k b=>by cases b)) (qK _)
end
end
section
open Go.RowKit Go.Shelf
def Two(W:World)(b p q:Nat)(x y:jJ):Prop:=W.cell? ⟨b,p,none⟩=some (.int .u64 (x.h:Nat))/\W.cell? ⟨b,p+1,none⟩=some (.int .i64 x.v)/\W.cell? ⟨b,p+2,none⟩=some (.int .i64 x.p) /\
 W.cell? ⟨b,q,none⟩=some (.int .u64 (y.h:Nat))/\W.cell? ⟨b,q+1,none⟩=some (.int .i64 y.v)/\W.cell? ⟨b,q+2,none⟩=some (.int .i64 y.p)
theorem Z1(v:Value)(l:List jJ)(w:World)(S:ju w v l)(hn:l.length<=1000000):
  Calls prog 200 #[v] w fun e w'=>e = .returned (.bool (yz l))/\Below w.heap.size w w':=by
 obtain⟨A,off,ac,rfl,-,R⟩:=S.form;have F:=qQ R;have Y:=qQ (ZU (l:=l));have X:=qQ (fun(i:Nat) (x y:jJ) h1 h2 h3=>OI (l:=l) (i:=i) (x:=x) (y:=y) h1 h2 h3);obtain⟨n,B⟩:∃n,n=l.length:=⟨_,rfl⟩
 have u:=qQ B;rw[<-B]at hn ⊢;clear S R B;generalize yz l=r at*;go_enter func200,ntmps200;go_wp2;go_loopw [6] (fun i wr=>∃k:Nat,k<=n/\i = .int .i64 k/\(∀(i:Nat) (x y:jJ),i+1<k->l[i]? = some x->l[i+1]? = some y->jT x y=true)/\Below w.heap.size w wr) (fun i _=>n-(intOf i).toNat)
 case atStart=>exact⟨0,qF _,rfl,fun i x y h=>absurd h (by omega),Below.refl _ _⟩
 case round =>
  obtain⟨k,hk,rfl,Q,a⟩:=hrel;have D:=qQ Q;clear Q;by_cases ad:k<n
  ·have s1:(k:Int)<(n:Int):=(by omega);by_cases O:k=0
   ·subst O;go_wp2
    first
    | (go_roundw
       case rel=>exact⟨1,by omega,by go_num,fun i x y h=>absurd h (by omega),a⟩
       case measure=>simp[intOf];omega)
    | (go_quiet (fail)
       go_wp2;refine⟨⟨1,by omega,by go_num,fun i x y h=>absurd h (by omega),vo a _⟩,by simp[intOf];omega⟩)
   ·obtain⟨m,z⟩:∃m,k=m+1:=⟨k-1,by omega⟩
    obtain⟨x,g⟩:∃x,l[m]? = some x:=⟨_,qC (by rw[<-u.out];omega)⟩
    obtain⟨y,f⟩:∃y,l[k]? = some y:=⟨_,qC (by rw[<-u.out];omega)⟩
    obtain⟨b,rfl,d,H,I,J⟩:=F.out m x g;obtain⟨Z,K,-,L,M,N⟩:=F.out k y f;obtain rfl:b=Z:=(by simpa using K);have q1:(k:Int)-1=(m:Int):=(by omega);have q2:decide ((0:Int)<(k:Int))=true:=qA (by omega);have q5:decide (0<k)=true:=qA (by omega);have q6:(0:Int)<(k:Int):=(by omega);have q7:0<k:=(by omega);have q3:IntKind.i64.wrap ((m:Nat):Int)=(m:Nat):=IntWalk.i64_in _ ⟨by omega,by omega⟩;have q4:(m:Int)<(n:Int):=(by omega);have s:=qQ (show l[m]? = some x/\l[m+1]? = some y from⟨g,by rw[<-z];exact f⟩)
    have q:Hid (∀W,Below wr.heap.size wr W->Below wr.heap.size wr W/\Two W b (off+m*3) (off+k*3) x y):=qQ fun W j =>
     ⟨j,(j.cell (p:=⟨b,off+m*3,none⟩) (qR d a.size)).trans ((a.cell (p:=⟨b,off+m*3,none⟩) d).trans H),(j.cell (p:=⟨b,off+m*3+1,none⟩) (qR d a.size)).trans ((a.cell (p:=⟨b,off+m*3+1,none⟩) d).trans I),(j.cell (p:=⟨b,off+m*3+2,none⟩) (qR d a.size)).trans ((a.cell (p:=⟨b,off+m*3+2,none⟩) d).trans J),
      (j.cell (p:=⟨b,off+k*3,none⟩) (qR d a.size)).trans ((a.cell (p:=⟨b,off+k*3,none⟩) d).trans L),(j.cell (p:=⟨b,off+k*3+1,none⟩) (qR d a.size)).trans ((a.cell (p:=⟨b,off+k*3+1,none⟩) d).trans M),(j.cell (p:=⟨b,off+k*3+2,none⟩) (qR d a.size)).trans ((a.cell (p:=⟨b,off+k*3+2,none⟩) d).trans N)⟩
    have t:=fun W=>oK x y W
    have C:=q.out wr (Below.refl _ _);clear g f H I J L M N K d O;have T:=qQ z;clear z;have HK:=qQ hk;cases o:jT x y
    all_goals
     rw[o]at t;have U:=qQ t;have G:=qQ o;clear t o;obtain⟨xh,xv,xp⟩:=x;obtain⟨yh,yv,yp⟩:=y;unfold Two at q C;simp only at q C;obtain⟨-,c0,c1,c2,c3,c4,c5⟩:=C;go_wp2_with fail
     go_region_held3 (fun W=>Below wr.heap.size wr W/\W.cell? ⟨b,off+m*3,none⟩=some (.int .u64 (xh:Nat))/\W.cell? ⟨b,off+m*3+1,none⟩=some (.int .i64 xv)/\W.cell? ⟨b,off+m*3+2,none⟩=some (.int .i64 xp) /\
      W.cell? ⟨b,off+k*3,none⟩=some (.int .u64 (yh:Nat))/\W.cell? ⟨b,off+k*3+1,none⟩=some (.int .i64 yv)/\W.cell? ⟨b,off+k*3+2,none⟩=some (.int .i64 yp))
      (first | (with_reducible assumption) | ((with_reducible refine q.out _ ?_);(first | (with_reducible assumption) | (with_reducible exact Below.refl _ _) | (with_reducible exact(Below.refl _ _).drew) | exact(bj (And.left (by with_reducible assumption)) ‹Below _ _ _›));done) | fail)
      (first
      | (go_at_call 137;((with_reducible refine(U.out _).mono ?_);rintro e w3⟨rfl,aa⟩;have P:Below wr.heap.size wr w3:=bj (And.left (by with_reducible assumption)) aa))
      | fail)
     all_goals
      go_wp2
      first
      | (go_roundw
         case rel =>
          refine⟨k+1,by omega,by go_num,fun i x y hi g f=>?_,bj a P⟩;rcases Nat.lt_or_ge (i+1) k with c|c
          ·exact D.out i x y c g f
          ·obtain rfl:i=m:=(by have:=T.out;omega);rw[s.out.1]at g;rw[s.out.2]at f;rw[<-qg g,<-qg f];exact G.out
         case measure=>simp[intOf];omega)
      | (go_ret
         exact⟨by rw[X.out m _ _ s.out.1 s.out.2 G.out];rfl,bj a P⟩)
  ·obtain rfl:k=n:=(by omega);have s1:¬(k:Int)<(k:Int):=(by omega);have ab:=Y.out (fun i x y g f=>D.out i x y (by have:=(qP.1 f).1;rw[<-u.out]at this;omega) g f);subst ab;go_wp2;go_ret;exact⟨rfl,a⟩
theorem UU: ∀(l:List jJ) (k:Nat) (x:jJ),k<l.length->yB (l.set k x)=(((yB l).set (k*3) (.int .u64 (x.h:Nat))).set (k*3+1) (.int .i64 x.v)).set (k*3+2) (.int .i64 x.p)
 | [],k,x,h=>absurd h (Nat.not_lt_zero _)
 | y::l,0,x,_=>rfl
 | y::l,k+1,x,h=>by
   have ih:=UU l k x (by simpa using h);have e:(k+1)*3=k*3+3:=(by omega);unfold yB at*;rw[List.set_cons_succ,List.flatMap_cons,List.flatMap_cons,ih,e];rfl
theorem jE.put{w:World}{base g n cap k:Nat}{l:List jJ}(h:jE w base (.slice (some ⟨g,0,none⟩) n cap) l)(f:n=l.length)(d:k<n)(x:jJ):
  jE (((w.setCell ⟨g,k*3,none⟩ (.int .u64 (x.h:Nat))).setCell ⟨g,k*3+1,none⟩ (.int .i64 x.v)).setCell ⟨g,k*3+2,none⟩ (.int .i64 x.p)) base (.slice (some ⟨g,0,none⟩) n cap) (l.set k x):=by
 subst f;have a:=(h.stored (k*3) (.int .u64 (x.h:Nat))).1;have b:=(a.stored (k*3+1) (.int .i64 x.v)).1;have c:=(b.stored (k*3+2) (.int .i64 x.p)).1;unfold jE;rw[UU l k x d,List.length_set];exact c
theorem jE.at_{w:World}{base g n cap k:Nat}{l:List jJ}(h:jE w base (.slice (some ⟨g,0,none⟩) n cap) l)(c:n=l.length)(b:k<n):
  (∃x:jJ,w.cell? ⟨g,k*3,none⟩=some (.int .u64 (x.h:Nat))/\w.cell? ⟨g,k*3+1,none⟩=some (.int .i64 x.v)/\w.cell? ⟨g,k*3+2,none⟩=some (.int .i64 x.p)) /\
  w.frozen? ⟨g,k*3,none⟩=false/\w.frozen? ⟨g,k*3+1,none⟩=false/\w.frozen? ⟨g,k*3+2,none⟩=false:=by
 subst c;have a:=qC b;refine⟨⟨l[k], ?_, ?_, ?_⟩,h.frozenAt _,h.frozenAt _,h.frozenAt _⟩
 ·exact(h.cellAt (k*3) (by omega)).trans (mS l k _ a 0 (by omega))
 ·exact(h.cellAt (k*3+1) (by omega)).trans (mS l k _ a 1 (by omega))
 ·exact(h.cellAt (k*3+2) (by omega)).trans (mS l k _ a 2 (by omega))
theorem jE.down{w:World}{base base':Nat}{v:Value}{l:List jJ}(h:jE w base v l)(d:base'<=base):jE w base' v l:=by
 refine⟨h.1, ?_⟩;rcases h.2 with c|⟨g,a,b,i,f,r⟩
 ·exact qX c
 ·exact qY ⟨g,a,b,i,qO d f,r⟩
end
section
open Go.ChangeShapes Go.WideShapes Go.ChangeAt Go.RowKit Go.Deep
structure jg where
 t:Tw
 d:Tw
 b:Nat
end
section
open Go.RowKit Go.Shelf
def UG(b:Bool)(w:World)(e:Ending)(w':World):Prop:=e = .returned (.bool b)/\∃n,w'=w.drewN n
theorem PH{a b:List jJ}(f:a.length=b.length)(h:∀(j:Nat) x y,a[j]? = some x->b[j]? = some y->x=y):a=b:=by
 apply List.ext_getElem f;intro j c d;exact h j _ _ (qC c) (qC d)
end
section
open Go.ChangeShapes Go.WideShapes Go.ChangeAt Go.RowKit Go.Deep
def uv(s:Tw)(f:Int)(v:Value):Value:=.agg #[.string s,.int .i64 f,v]
end
end Go.Proofs.YtokbfellcadkpaaGreat

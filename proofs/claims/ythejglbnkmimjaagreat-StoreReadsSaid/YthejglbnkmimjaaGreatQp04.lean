import Derived.Test.YthejglbnkmimjaaGreatQp03
set_option linter.unusedVariables false
set_option maxRecDepth 100000
set_option maxHeartbeats 9000000
namespace Go.Proofs.YthejglbnkmimjaaGreat
open Proofs.Tryz
section
open Go.RowKit
def jb(x y:jC):Bool:=decide (x.h<y.h∨(x.h=y.h/\(x.v<y.v∨(x.v=y.v/\x.p<y.p))))
theorem l8{x y:jC}:jb x y=true↔(x.h<y.h∨(x.h=y.h/\(x.v<y.v∨(x.v=y.v/\x.p<y.p)))):=by unfold jb;exact decide_eq_true_iff
theorem oZ{x y:jC}(a:x.h=y.h)(b:x.v=y.v)(d:x.p=y.p):x=y:=by cases x;cases y;simp_all
instance qVs : DecidableEq jC := fun x y => decidable_of_iff (x.h = y.h /\ x.v = y.v /\ x.p = y.p) ⟨fun h => oZ h.1 h.2.1 h.2.2, fun h => by subst h; exact ⟨rfl, rfl, rfl⟩⟩
theorem px(x:jC):jb x x=false:=by unfold jb;exact qA (by omega)
theorem l9{x y z:jC}(h:jb x y=true)(k:jb y z=true):jb x z=true:=by rw[l8]at*;omega
theorem Xu{x y:jC}(h:jb x y=false)(b:x≠y):jb y x=true:=by
 rcases Decidable.em (jb y x=true) with c|c
 ·exact c
 ·exfalso;apply b;have a:¬jb x y=true:=by rw[h];decide
  rw[l8]at a c;exact oZ (by omega) (by omega) (by omega)
def mayE(x:jC):Bool:=decide (0<=x.v/\0<=x.p)
def uh(x:jC):List UInt8:=be 8 x.h++(be 8 x.v.toNat++be 8 x.p.toNat)
def vP(x:jC):Tw:=if mayE x=true then bs (uh x) else ByteArray.empty
def enV(s:Tw):Nat:=jz (s.extract 8 16)
def enP(s:Tw):Nat:=jz (s.extract 16 24)
def vg(s:Tw):Bool:=decide (s.size=24/\enV s<9223372036854775808/\enP s<9223372036854775808)
def enG(s:Tw):jC:=if vg s=true then⟨jz (s.extract 0 8),(enV s:Nat),(enP s:Nat)⟩ else⟨0,0,0⟩
theorem Xg(x:jC):(uh x).length=24:=by unfold uh;rw[qN,qN,jn,jn,jn]
theorem Xb{x:jC}(h:mayE x=true):(vP x).size=24:=by unfold vP;rw[qV h,kK,Xg]
theorem Vv(l:List UInt8):(bs l).data.toList=l:=by simp[bs]
theorem oJ(s:Tw)(i j:Nat):(s.extract i j).data.toList=(s.data.toList.drop i).take (j-i):=by
 rw[ByteArray.data_extract,Array.toList_extract,List.extract_eq_take_drop]
theorem Xc: (256:Nat) ^ 8=18446744073709551616:=by decide
theorem oK{s:Tw}{l:List UInt8}(h:s.data.toList=l)(a:l.length=8):jz s=un l:=by unfold jz;rw[h,qp (by omega)]
theorem Vy{x:jC}(m:kz x)(h:mayE x=true):vg (vP x)=true/\enG (vP x)=x:=by
 have t:=of_decide_eq_true h;obtain⟨j,o,q,r,s⟩:=m;have k:=Xb h;have e:(vP x).data.toList=uh x:=by unfold vP;rw[qV h,Vv]
 have a:=jn 8 x.h;have b:=jn 8 x.v.toNat;have n:=jn 8 x.p.toNat
 have i:jz ((vP x).extract 0 8)=x.h:=by
  rw[oK (l:=be 8 x.h) _ a,lO,Xc,Nat.mod_eq_of_lt j];rw[oJ,e,List.drop_zero];unfold uh;rw[List.take_left' a]
 have d:enV (vP x)=x.v.toNat:=by
  unfold enV;rw[oK (l:=be 8 x.v.toNat) _ b,lO,Xc,Nat.mod_eq_of_lt (by omega)];rw[oJ,e];unfold uh;rw[List.drop_left' a,List.take_left' b]
 have f:enP (vP x)=x.p.toNat:=by
  unfold enP;rw[oK (l:=be 8 x.p.toNat) _ n,lO,Xc,Nat.mod_eq_of_lt (by omega)];rw[oJ,e];unfold uh;rw[show(16:Nat)=8+8 from rfl,<-List.drop_drop,List.drop_left' a,List.drop_left' b,qp (by omega)]
 have g:vg (vP x)=true:=by
  unfold vg;rw[d,f];exact qB ⟨k,by omega,by omega⟩
 refine⟨g, ?_⟩;unfold enG;rw[qV g,i,d,f];exact oZ rfl (by show((x.v.toNat:Nat):Int)=x.v;omega) (by show((x.p.toNat:Nat):Int)=x.p;omega)
theorem MS: vg ByteArray.empty=false:=by unfold vg;exact qA (fun h=>by have:(0:Nat)=24:=h.1;omega)
theorem tZ{x:jC}(h:mayE x=false):vP x=ByteArray.empty:=by unfold vP;rw[h];rfl
theorem MT{x:jC}(a:kz x):vg (vP x)=mayE x:=by
 cases h:mayE x with
 | true=>exact(Vy a h).1
 | false=>rw[tZ h,MS]
theorem M4{s:Tw}(h:vg s=true):mayE (enG s)=true/\vP (enG s)=s:=by
 have n:=of_decide_eq_true h;obtain⟨o,t,r⟩:=n
 have j:mayE (enG s)=true:=by
  unfold enG mayE;rw[qV h];exact qB ⟨by show(0:Int)<=((enV s:Nat):Int);omega,by show(0:Int)<=((enP s:Nat):Int);omega⟩
 refine⟨j, ?_⟩;have p:s.data.toList.length=24:=by rw[Array.length_toList];exact o
 have a:((s.data.toList.drop 0).take 8).length=8:=by rw[qT,xQ];omega
 have b:((s.data.toList.drop 8).take 8).length=8:=by rw[qT,xQ];omega
 have d:((s.data.toList.drop 16).take 8).length=8:=by rw[qT,xQ];omega
 have f:=mN ((s.data.toList.drop 0).take 8);have g:=mN ((s.data.toList.drop 8).take 8);have i:=mN ((s.data.toList.drop 16).take 8);rw[a]at f;rw[b]at g;rw[d]at i;have k:jz (s.extract 0 8)=un ((s.data.toList.drop 0).take 8):=oK (oJ s 0 8) a;have l:enV s=un ((s.data.toList.drop 8).take 8):=oK (oJ s 8 16) b;have m:enP s=un ((s.data.toList.drop 16).take 8):=oK (oJ s 16 24) d
 have e:uh (enG s)=s.data.toList:=by
  unfold enG uh;rw[qV h];show be 8 (jz (s.extract 0 8))++(be 8 ((enV s:Nat):Int).toNat++be 8 ((enP s:Nat):Int).toNat)=_;rw[qm,qm,k,l,m,f,g,i,List.drop_zero];rw[show(16:Nat)=8+8 from rfl,<-List.drop_drop];have q:(((s.data.toList.drop 8).drop 8).take 8)=(s.data.toList.drop 8).drop 8:=qp (by rw[xQ,xQ];omega);rw[q,qe,qe]
 unfold vP;rw[qV j,e,mO]
theorem Vu{s:Tw}(h:vg s=false):enG s=⟨0,0,0⟩:=by unfold enG;rw[h];rfl
theorem M5{s:Tw}(h:s.size≠24):vg s=false:=by unfold vg;exact qA (fun x=>h x.1)
def ya: List jC->Bool
 | []=>true
 | [_]=>true
 | x::y::l=>jb x y&&ya (y::l)
theorem Xd: ∀ {l:List jC},(∀(i:Nat) (x y:jC),l[i]? = some x->l[i+1]? = some y->jb x y=true)->ya l=true
 | [],_=>rfl
 | [_],_=>rfl
 | x::y::l,h=>by
   unfold ya;rw[h 0 x y rfl rfl,Bool.true_and];exact Xd fun i a b ha hb=>h (i+1) a b (by simpa using ha) (by simpa using hb)
theorem Vg: ∀ {l:List jC},ya l=true->∀(i:Nat) (x y:jC),l[i]? = some x->l[i+1]? = some y->jb x y=true
 | [],_=>fun i x y d _=>by simp at d
 | [_],_=>fun i x y _ f=>by simp at f
 | a::b::l,h=>by
   unfold ya at h;rw[Bool.and_eq_true]at h;intro i x y d f;cases i with
   | zero =>
     obtain rfl:a=x:=(by simpa using d);obtain rfl:b=y:=(by simpa using f);exact h.1
   | succ i=>exact Vg h.2 i x y (by simpa using d) (by simpa using f)
theorem M6{l:List jC}{i:Nat}{x y:jC}(b:l[i]? = some x)(d:l[i+1]? = some y)(h:jb x y=false):ya l=false:=by
 cases a:ya l with
 | false=>rfl
 | true=>rw[Vg a i x y b d]at h;cases h
def kG(l:List jC):Prop:=l.Pairwise (fun x y=>jb x y=true)
theorem kG.sorted{l:List jC}(h:kG l):ya l=true:=Xd fun i x y d a=>by
 have b:=(qO.1 a).1;have:=xY.1 h i (i+1) (by omega) b (by omega);rw[qD (by omega)]at d;rw[qD b]at a;rw[<-qb d,<-qb a];exact this
theorem Vb: ∀ {l:List jC},ya l=true->kG l
 | [],_=>List.Pairwise.nil
 | [x],_=>List.pairwise_singleton _ _
 | x::y::l,h=>by
   unfold ya at h;rw[Bool.and_eq_true]at h;have hr:=Vb h.2;refine List.Pairwise.cons (fun z a=>?_) hr;rcases qL.1 a with rfl|a
   ·exact h.1
   ·exact l9 h.1 ((xU.1 hr).1 z a)
def vW(l:List jC)(x:jC):Nat:=l.findIdx (fun y=>!jb y x)
def vz(l:List jC)(x:jC):List jC:=if l[vW l x]? = some x then l else l.take (vW l x)++[x]++l.drop (vW l x)
theorem Xf(l:List jC)(x:jC):vW l x<=l.length:=List.findIdx_le_length
theorem Xh(l:List jC)(x:jC):∀y∈l.take (vW l x),jb y x=true:=by
 intro y d;obtain⟨j,a⟩:=qd d;have b:=(qO.1 a).1;rw[qT]at b;rw[List.getElem?_take,qV (by omega),qD (by omega)]at a;have e:=qb a;have:=List.not_of_lt_findIdx (p:=fun y=>!jb y x) (xs:=l) (i:=j) (by unfold vW at b;omega);rw[e]at this;simpa using this
theorem Vc{l:List jC}{x:jC}(j:kG l)(i:l[vW l x]?≠some x):∀y∈l.drop (vW l x),jb x y=true:=by
 rcases qh (vW l x) l.length with c|c
 ·have e:l.drop (vW l x)=l[vW l x]::l.drop (vW l x+1):=xJ c
  have f:jb l[vW l x] x=false:=by
   have h:(!jb l[vW l x] x)=true:=List.findIdx_getElem (p:=fun y=>!jb y x) (xs:=l) (w:=c);rw[Bool.not_eq_true']at h;exact h
  have g:l[vW l x]≠x:=fun h=>i (by rw[qD c,h])
  have b:=Xu f g;have d:kG (l.drop (vW l x)):=List.Pairwise.drop j;rw[e]at d ⊢;intro y a;rcases qL.1 a with rfl|a
  ·exact b
  ·exact l9 b ((xU.1 d).1 y a)
 ·rw[List.drop_eq_nil_of_le c];intro y a;cases a
theorem Vd{l:List jC}(g:kG l)(x:jC):kG (vz l x):=by
 unfold vz;split
 ·exact g
 ·rename_i k;have i:=Xh l x;have j:=Vc g k;refine List.pairwise_append.2 ⟨List.pairwise_append.2 ⟨List.Pairwise.take g,List.pairwise_singleton _ _,fun a d b f=>?_⟩,List.Pairwise.drop g,fun a d b f=>?_⟩
  ·rw[qH.1 f];exact i a d
  ·rcases qE.1 d with d|d
   ·exact l9 (i a d) (j b f)
   ·rw[qH.1 d];exact j b f
theorem tJ{l:List jC}{x y:jC}(h:y∈vz l x):y∈l∨y=x:=by
 unfold vz at h;split at h
 ·exact qX h
 ·rcases qE.1 h with h|h
  ·rcases qE.1 h with h|h
   ·exact qX (List.mem_of_mem_take h)
   ·exact qY (qH.1 h)
  ·exact qX (List.mem_of_mem_drop h)
theorem M7(l:List jC)(x:jC):(vz l x).length<=l.length+1:=by
 unfold vz;split
 ·omega
 ·rw[qN,qN,qT,xQ,List.length_singleton];have:=Xf l x;omega
theorem Vf(l:List jC)(k:Nat)(x:jC)(h:l[k]? = some x):l.take (k+1)=l.take k++[x]:=by
 rw[qw,h];rfl
def gS(h:Nat)(v:Int)(x:jC):Bool:=decide (x.h<h∨(x.h=h/\x.v<v))
def uF(h:Nat)(v:Int)(x:jC):Bool:=decide (x.h<h∨(x.h=h/\x.v<=v))
def inQ(h:Nat)(a b:Int)(x:jC):Bool:=decide (x.h=h/\a<=x.v/\x.v<=b)
def upQ(h:Nat)(b:Int)(x:jC):Bool:=decide (x.h=h/\x.v<=b)
def mg(l:List jC)(h:Nat)(v:Int):Nat:=l.countP (gS h v)
def vQ(l:List jC)(h:Nat)(a b:Int):List jC:=l.filter (inQ h a b)
def fK(l:List jC)(h:Nat)(b:Int):Option jC:=(l.filter (upQ h b)).getLast?
def vm(l:List jC)(h:Nat)(b:Int):jC:=(fK l h b).getD ⟨0,0,0⟩
def yZ(l:List jC)(h:Nat)(b:Int):Bool:=(fK l h b).isSome
def uV(q:jC->Bool)(l:List jC)(k:Nat):Prop:=∀(i:Nat) (x:jC),l[i]? = some x->q x=decide (i<k)
theorem mc{q:jC->Bool}(j:∀x y,jb x y=true->q y=true->q x=true):∀ {l:List jC},kG l->uV q l (l.countP q)
 | [],_=>fun i x h=>by simp at h
 | a::l,hr=>by
   obtain⟨m,n⟩:=xU.1 hr;have o:=mc j n;intro i x d;cases b:q a with
   | true =>
     rw[List.countP_cons_of_pos b];cases i with
     | zero =>
       obtain rfl:a=x:=(by simpa using d);rw[b,qB (Nat.succ_pos _)]
     | succ i =>
       rw[o i x (by simpa using d),decide_eq_decide];omega
   | false =>
     have g:∀y∈l,q y=false:=fun y f=>by
      cases h:q y with
      | false=>rfl
      | true=>rw[j a y (m y f) h]at b;cases b
     have k:l.countP q=0:=List.countP_eq_zero.2 fun y f=>by rw[g y f];decide
     rw[List.countP_cons_of_neg (by rw[b];decide),k,qA (Nat.not_lt_zero _)];cases i with
     | zero =>
       obtain rfl:a=x:=(by simpa using d);exact b
     | succ i=>exact g x (qM (by simpa using d))
theorem Vh(h:Nat)(v:Int):∀x y,jb x y=true->gS h v y=true->gS h v x=true:=by
 intro x y a b;rw[l8]at a;have:=of_decide_eq_true b;exact qB (by omega)
theorem Xl(h:Nat)(v:Int):∀x y,jb x y=true->uF h v y=true->uF h v x=true:=by
 intro x y a b;rw[l8]at a;have:=of_decide_eq_true b;exact qB (by omega)
theorem uV.tail{q:jC->Bool}{x:jC}{l:List jC}{k:Nat}(h:uV q (x::l) k):q x=decide (0<k)/\uV q l (k-1) :=
 ⟨h 0 x rfl,fun i y a=>by rw[h (i+1) y (by simpa using a),decide_eq_decide];omega⟩
theorem Vl{q r:jC->Bool}:∀ {l:List jC} {a b:Nat},uV q l a->uV r l b->l.filter (fun x=>!q x&&r x)=(l.drop a).take (b-a)
 | [],a,b,_,_=>by simp
 | x::l,a,b,hq,hr=>by
   obtain⟨f,g⟩:=hq.tail;obtain⟨i,j⟩:=hr.tail;have d:=Vl g j;rw[List.filter_cons,f,i,d];cases a with
   | zero =>
     cases b with
     | zero=>simp
     | succ b=>simp
   | succ a =>
     have e:decide (0<a+1)=true:=qB (Nat.succ_pos _);rw[e];simp only[Bool.not_true,Bool.false_and,Bool.false_eq_true,if_false,Nat.add_sub_cancel,List.drop_succ_cons];congr 1;omega
theorem Mq{l:List jC}{h:Nat}{a b:Int}{i j:Nat}(d:uV (gS h a) l i)(f:uV (uF h b) l j):vQ l h a b=(l.drop i).take (j-i):=by
 rw[<-Vl d f];unfold vQ;congr 1;funext x;unfold inQ gS uF;rw[<-decide_not,<-Bool.decide_and,decide_eq_decide];omega
theorem Mx{p:jC->Bool}{l:List jC}{i:Nat}{x:jC}(m:l[i]? = some x)(k:p x=true)(g:∀j y,i<j->l[j]? = some y->p y=false):(l.filter p).getLast? = some x:=by
 obtain⟨f,e⟩:=qO.1 m
 have b:l=l.take i++(x::l.drop (i+1)):=by
  rw[<-e,<-xJ f,qe]
 have d:(l.drop (i+1)).filter p=[]:=by
  rw[List.filter_eq_nil_iff];intro y n;obtain⟨j,a⟩:=qd n;rw[List.getElem?_drop]at a;rw[g _ y (by omega) a];decide
 rw[b,List.filter_append,List.filter_cons,qV k,d];simp
theorem Xm{p:jC->Bool}{l:List jC}(a:∀y∈l,p y=false):(l.filter p).getLast? = none:=by
 have:l.filter p=[]:=List.filter_eq_nil_iff.2 fun y b=>by rw[a y b];decide
 rw[this];rfl
theorem Xn{l:List jC}{h:Nat}{b:Int}{k:Nat}{x:jC}(a:uV (uF h b) l (k+1))(d:l[k]? = some x)(f:x.h=h):fK l h b=some x:=by
 have i:=of_decide_eq_true ((a k x d).trans (qB (Nat.lt_succ_self k)));refine Mx d (qB ⟨f,by omega⟩) fun j y n g=>?_
 have m:=of_decide_eq_false ((a j y g).trans (qA (by omega)));exact qA (by omega)
theorem Xp{l:List jC}{h:Nat}{b:Int}{k:Nat}{x:jC}(m:kG l)(f:uV (uF h b) l (k+1))(a:l[k]? = some x)(p:x.h≠h):fK l h b=none:=by
 refine Xm fun y n=>?_
 obtain⟨j,d⟩:=qd n;have o:=of_decide_eq_true ((f k x a).trans (qB (Nat.lt_succ_self k)));have g:=f j y d;unfold upQ;rcases Nat.lt_trichotomy j k with c|c|c
 ·have i:=(qO.1 a).1;have:=xY.1 m j k (by omega) i c;rw[qD (by omega)]at d;rw[qD i]at a;rw[qb d,qb a,l8]at this;exact qA (by omega)
 ·subst c;rw[d]at a;obtain rfl:=qb a;exact qA (by omega)
 ·rw[qA (by omega)]at g;have:=of_decide_eq_false g;exact qA (by omega)
theorem Xr{l:List jC}{h:Nat}{b:Int}(a:uV (uF h b) l 0):fK l h b=none:=by
 refine Xm fun y f=>?_
 obtain⟨j,d⟩:=qd f;have:=of_decide_eq_false ((a j y d).trans (qA (Nat.not_lt_zero _)));exact qA (by omega)
theorem Mz(c k:Nat)(g:c<256):(bits .and .u8 ((c:Int)/2 ^ k) 1==0) = !c.testBit k:=by
 have d:(c:Int)/2 ^ k=((c/2 ^ k:Nat):Int):=by simp
 rw[d,show(1:Int)=((1:Nat):Int) from rfl,u8_and_nat _ _ (Nat.lt_of_le_of_lt (Nat.div_le_self _ _) g) (by decide),Nat.and_one_is_mod];have b:=Fv (c:=c) (k:=k);cases a:c.testBit k with
 | true=>rw[b.2 a];rfl
 | false =>
   have i:¬c/2 ^ k%2=1:=fun e=>by rw[b.1 e]at a;cases a
   have f:c/2 ^ k%2=0:=(by omega);rw[f];rfl
theorem Mj(mb x:Nat)(p n:Int)(C:Array Value)(q r:Bool)(c:Nat)(w:World)(K:x<=10000000)(s:C.size=60)(k:C.all (·.oneCell')=true)(B:c<256)
  (l:∀W,Below w.1.size w W->(Instr.lookup 235 (.map (some mb)) (.int .i64 ((x:Int)/480)) true).run prog W=.ok (.tuple #[.agg C,q]) W)
  (F:(q=false/\r=false)∨(q=true/\C[x%480/8]? = some (.int .u8 (c:Nat))/\r = !c.testBit (x%8))):
  Calls prog 258 #[.agg #[p,n,.map (some mb)],x] w (X3 (.bool r) w):=by
 have a:Below w.1.size w (w.alloc (.cells #[p,n,.map (some mb)] 237)):=(qU _ _).alloc (qK _) _;have A:=l _ a;have c0:(w.alloc (.cells #[p,n,.map (some mb)] 237)).cell? ⟨w.1.size,2,none⟩=some (.map (some mb)):=(jF.new w _ _).cell 2;obtain⟨b,G⟩:∃b,w.alloc (.cells #[p,n,.map (some mb)] 237)=b:=⟨_,rfl⟩
 rw[G]at a A c0;have m:=run_storeCells_new (P:=prog) b 335 (pgC (List.replicate 60 0)) C (by rw[s];exact tQ) (by rw[s,p8];rfl) k;have j:pgC (List.replicate 60 0)=#[.int .u8 0,.int .u8 0,.int .u8 0,.int .u8 0,.int .u8 0,.int .u8 0,.int .u8 0,.int .u8 0,.int .u8 0,.int .u8 0,.int .u8 0,.int .u8 0,.int .u8 0,.int .u8 0,.int .u8 0,.int .u8 0,.int .u8 0,.int .u8 0,.int .u8 0,.int .u8 0,.int .u8 0,.int .u8 0,.int .u8 0,.int .u8 0,.int .u8 0,.int .u8 0,.int .u8 0,.int .u8 0,.int .u8 0,.int .u8 0,.int .u8 0,.int .u8 0,.int .u8 0,.int .u8 0,.int .u8 0,.int .u8 0,.int .u8 0,.int .u8 0,.int .u8 0,.int .u8 0,.int .u8 0,.int .u8 0,.int .u8 0,.int .u8 0,.int .u8 0,.int .u8 0,.int .u8 0,.int .u8 0,.int .u8 0,.int .u8 0,.int .u8 0,.int .u8 0,.int .u8 0,.int .u8 0,.int .u8 0,.int .u8 0,.int .u8 0,.int .u8 0,.int .u8 0,.int .u8 0]:=by rfl
 rw[j]at m;have g:=fun i v (h:C[i]? = some v)=>((jF.new b 335 C).cell i).trans h
 have d:Below w.1.size w (b.alloc (.cells C 335)):=a.alloc a.size _;rcases F with⟨rfl,rfl⟩|⟨rfl,t,rfl⟩
 ·have f:=qQ d;clear l g k a d j;go_enter func258,ntmps258;go_wp2;go_ret;exact⟨rfl,f.out⟩
 ·have o:=g _ _ t;obtain⟨z,H⟩:∃z,b.alloc (.cells C 335)=z:=⟨_,rfl⟩
  rw[H]at d m o;have f:=qQ d;obtain⟨i,u⟩:∃i:Nat,x%480/8=i:=⟨_,rfl⟩
  obtain⟨y,M⟩:∃y:Nat,x%480=y:=⟨_,rfl⟩
  have I:((x:Int)%480)=(y:Int):=by omega
  have J:((y:Int)/8)=(i:Int):=by omega
  rw[u]at o;clear l g k a d j t u;go_enter func258,ntmps258;go_wp2;go_ret;refine⟨pK ?_,f.out⟩;rw[show x%8=y%8 by omega];exact Mz c (y%8) B
theorem Mk{t:Tw}{m x:Nat}(f:x/480<m)(l:List UInt8)(q:Bool)(a:l=if x/480<m/\pgW t (x/480+1)=true then pgB t (x/480) else List.replicate 60 0)(b:q=(decide (x/480<m)&&pgW t (x/480+1))):
  l.length=60/\((q=false/\bY t x=false)∨(q=true/\(pgC l)[x%480/8]? = some (.int .u8 ((byT t x).toNat:Nat))/\bY t x = !(byT t x).toNat.testBit (x%8))):=by
 rw[qB f,Bool.true_and]at b;by_cases h:pgW t (x/480+1)=true
 ·rw[qV ⟨f,h⟩]at a;have g:l.length=60:=by rw[a];exact V7 h
  refine⟨g,qY ⟨by rw[b,h], ?_, ?_⟩⟩
  ·rw[Li l (by omega),<-MJ x rfl,a,show x%480/8=x/8%60 by omega]
  ·unfold bY VC;rw[h,Bool.true_and]
 ·rw[qZ (fun c=>h c.2)]at a;have d:=Bool.eq_false_iff.2 h;exact⟨by rw[a,List.length_replicate],qX ⟨by rw[b,d],by unfold bY;rw[d,Bool.false_and]⟩⟩
theorem Mv(mb m x:Nat)(p n:Int)(t:Tw)(w:World)(d:yX w mb t m)(f:x/480<m)(g:x<=10000000):
  Calls prog 258 #[.agg #[p,n,.map (some mb)],x] w (X3 (.bool (bY t x)) w):=by
 obtain⟨a,h⟩:=Mk (t:=t) f _ _ rfl rfl
 exact Mj mb x p n (pgC _) _ (bY t x) (byT t x).toNat w g (by rw[p8,a]) (p9 _) (UInt8.toNat_lt _)
  (fun W b=>by
   have:=(d.below b).look (k:=x/480) (by omega);rw[Int.natCast_ediv]at this;exact this) h
theorem My{g:Nat}{p b:Int}{i:Nat}(hi:i<nps p):prb g (i:Nat) b∈gK g p b:=sR.2 ⟨i,hi,rfl⟩
theorem Mu(g:Nat)(w:World):Calls prog 221 #[.agg #[.int .i64 0,.int .i64 0,.map none],.int .u64 (g:Nat)] w (X3 (.bool true) w):=by
 have a:Below w.1.size w (w.alloc (.cells #[.int .i64 0,.int .i64 0,.map none] 237)):=(qU _ _).alloc (qK _) _;go_enter func221,ntmps221;go_wp2;refine wp_loop_rounds 1 ?_;rw[rounds_succ];go_wp2;go_ret;exact⟨rfl,a⟩
theorem Mg{w wr:World}{g:Nat}{t:TypeId}{cs:Array Value}(h:jF wr g t cs):∀W,Below wr.1.size wr W->Below wr.1.size wr W/\W.cell? ⟨g,0,none⟩=cs[0]?/\W.cell? ⟨g,1,none⟩=cs[1]?/\W.cell? ⟨g,2,none⟩=cs[2]? := fun W b =>
 have a:jF W g t cs:=(b.block _ h.lt).trans h
 ⟨b,a.cell 0,a.cell 1,a.cell 2⟩
theorem Mb(mb g p n:Nat)(t:Tw)(r:Bool)(w:World)(hg:g<18446744073709551616)(P:yX w mb t (n/60))(hn:60<=n/\n<=120000/\n%60=0)(hp:p<=16)
  (B:(∀k∈gK g p ((8*n:Nat):Int),bY t k=false)->r=true) (A:∀k∈gK g p ((8*n:Nat):Int),bY t k=true->r=false):
  Calls prog 221 #[.agg #[p,n,.map (some mb)],.int .u64 (g:Nat)] w (X3 (.bool r) w):=by
 have S:nps (p:Nat)=p:=by unfold nps;omega
 obtain⟨b,u⟩:∃b:Int,((8*n:Nat):Int)=b:=⟨_,rfl⟩
 have eb:8*(n:Int)=b:=by omega
 have T:(Lit.int .i64 b).wf=true:=WalkArith.wf_i64 (by omega);rw[u]at B A;have aa:=qQ B;have V:=qQ A;have X:=qQ fun(i:Nat) (W:World) (O:i<64)=>Vz g (i:Nat) b W hg (WalkArith.wf_i64 (by omega)) T
 have s:∀i:Nat,prb g (i:Nat) b/480<n/60/\prb g (i:Nat) b<=10000000:=fun i=>by
  have:=K7 g (i:Nat) (show 1<=b by omega);omega
 have U:=qQ s;have m:jF (w.alloc (.cells #[p,n,.map (some mb)] 237)) w.1.size 237 #[p,n,.map (some mb)]:=jF.new w _ _;have y:Below w.1.size w (w.alloc (.cells #[p,n,.map (some mb)] 237)):=(qU _ _).alloc (qK _) _;have C:=P.below y;obtain⟨a,ab⟩:∃a,w.alloc (.cells #[p,n,.map (some mb)] 237)=a:=⟨_,rfl⟩
 rw[ab]at m y C;have c0:a.cell? ⟨w.1.size,0,none⟩=some (.int .i64 (p:Nat)):=m.cell 0;have c1:a.cell? ⟨w.1.size,1,none⟩=some (.int .i64 (n:Nat)):=m.cell 1;have f:=qQ (show jF a w.1.size _ _/\yX a mb t (n/60)/\Below w.1.size w a from⟨m,C,y⟩);clear m y C s B A u T P;go_enter func221,ntmps221;go_wp2;clear c0 c1;go_loopw [8] (fun v wr=>∃k:Nat,k<=p/\v=.int .i64 k/\(∀j,j<k->bY t (prb g (j:Nat) b)=false)/\Below a.1.size a wr) (fun v _=>p-(intOf v).toNat)
 case atStart=>exact⟨0,qI _,rfl,fun j hj=>by omega,qU _ _⟩
 case round =>
  obtain⟨k,hk,rfl,M,N⟩:=hrel;have I:=qQ M;have d:=qQ N;clear M N;by_cases s:k<p
  ·have J:=qQ fun W=>X.out k W (by omega)
   have l:=U.out k;have R:=f.out.2.1.below d.out;have o:jF wr w.1.size _ _:=(d.out.block _ f.out.1.lt).trans f.out.1;have Y:=qQ (show ∀W,Below wr.1.size wr W->Below wr.1.size wr W/\W.cell? ⟨w.1.size,0,none⟩=some (.int .i64 (p:Nat))/\W.cell? ⟨w.1.size,1,none⟩=some (.int .i64 (n:Nat))/\W.cell? ⟨w.1.size,2,none⟩=some (.map (some mb)) from Mg (w:=w) o);have Q:=qQ (My (g:=g) (p:=(p:Nat)) (b:=b) (i:=k) (by rw[S];exact s));have c0:wr.cell? ⟨w.1.size,0,none⟩=some (.int .i64 (p:Nat)):=o.cell 0;have c1:wr.cell? ⟨w.1.size,1,none⟩=some (.int .i64 (n:Nat)):=o.cell 1;have c2:wr.cell? ⟨w.1.size,2,none⟩=some (.map (some mb)):=o.cell 2;obtain⟨x,H⟩:∃x,prb g (k:Nat) b=x:=⟨_,rfl⟩
   have Z:=qQ H;rw[H]at J l Q;have K:=qQ fun W (hW:Below wr.1.size wr W)=>(Mv mb (n/60) x (p:Nat) (n:Nat) t W (R.below hW) l.1 l.2)
   have z:=qQ (show bY t x=bY t x from rfl);obtain⟨q,F⟩:∃q,bY t x=q:=⟨_,rfl⟩
   have z:=qQ F;rw[F]at K;have s5:(k:Int)<(p:Int):=(by omega);have ac:IntKind.i64.wrap b=b:=(by rw[IntKind.wrap_i64];omega);clear H l R o F;go_wp2_with fail
   go_region_held3 (fun W=>Below wr.1.size wr W/\W.cell? ⟨w.1.size,0,none⟩=some (.int .i64 (p:Nat))/\W.cell? ⟨w.1.size,1,none⟩=some (.int .i64 (n:Nat))/\W.cell? ⟨w.1.size,2,none⟩=some (.map (some mb)))
    (first|(with_reducible assumption)|((with_reducible refine Y.out _ ?_);(repeat' (first|(with_reducible assumption)|(with_reducible exact qU _ _)|(with_reducible refine Below.drew ?_)));done)|fail)
    (first
    | (go_at_call 259;((with_reducible refine X5 (J.out _) ?_)))
    | (go_at_call 258;((with_reducible refine KG (K.out _ (And.left (by with_reducible assumption))) fun w' u=>?_);have ad:=bj (And.left (by with_reducible assumption)) u))
    | fail)
   cases q with
   | true =>
     have G:=V.out x Q.out z.out;subst G;go_wp2;go_ret;exact⟨rfl,f.out.2.2.trans ((d.out.trans ((And.left (‹Below wr.1.size wr _/\_›)).mono d.out.size)).mono f.out.2.2.size)⟩
   | false =>
     go_wp2;go_roundw
     case rel =>
      refine⟨k+1,s,by go_num,fun j hj=>?_,d.out.trans ((And.left (‹Below wr.1.size wr _/\_›)).mono d.out.size)⟩;by_cases e:j=k
      ·rw[e,Z.out];exact z.out
      ·exact I.out j (by omega)
     case measure=>simp[intOf];omega
  ·have G:r=true:=aa.out fun x l=>by
    obtain⟨i,O,rfl⟩:=sR.1 l;rw[S]at O;exact I.out i (by omega)
   subst G;have s5:(p:Int)<=(k:Int):=(by omega);go_wp2;go_ret;exact⟨rfl,f.out.2.2.trans (d.out.mono f.out.2.2.size)⟩
theorem Vm(f:Value)(g:Nat)(t:Tw)(w:World)(a:g<18446744073709551616)(h:gY w f t):
  Calls prog 221 #[f,.int .u64 (g:Nat)] w (X3 (.bool (gV t g)) w):=by
 rcases h with⟨h,rfl⟩|⟨h,j,rfl,d⟩
 ·rw[VD h];exact Mu g w
 ·obtain⟨l,m,n,o,p⟩:=sa.1 (XT.1 h).2.1;exact Mb j g _ _ t (gV t g) w a d (by omega) (by omega) Lb fun k b i=>Ld h b i
end
section
structure kJ where
 next:Int
 check:Int
 seed:Nat
 lv:LvL
def vX(m:kJ):Prop:=0<=m.next/\m.next<=1000000/\0<=m.check/\m.check<=2147483647/\cw m.lv/\∀x∈m.lv.flatten,x<m.next
instance (m : kJ):Decidable (vX m) := by unfold vX; infer_instance
def fV(m:kJ):Bool:=decide (vX m)
def u4(x:Int):List UInt8:=be 4 x.toNat
def lvB(l:List Int):List UInt8:=be 1 l.length++l.flatMap u4
def uY(L:LvL):List UInt8:=L.flatMap lvB
def mf: List UInt8:=[105,109,97,112]
def Xs(m:kJ):List UInt8:=mf++be 4 m.next.toNat++be 4 m.check.toNat++be 8 m.seed
def mh(m:kJ):List UInt8:=Xs m++be 1 (kO m.lv).length
def pz(m:kJ):List UInt8:=mh m++uY (kO m.lv)
def mfB(m:kJ):Tw:=vO (bs (pz m))
def mfS(m:kJ):Tw:=if vX m then mfB m else ByteArray.empty
def mfE(m:kJ):Int:=if vX m then 0 else 2
theorem Vn{m:kJ}(h:¬vX m):mfS m=ByteArray.empty/\mfE m=2:=by unfold mfS mfE;rw[qZ h,qZ h];exact⟨rfl,rfl⟩
theorem Vp{m:kJ}(h:vX m):mfS m=mfB m/\mfE m=0:=by unfold mfS mfE;rw[qV h,qV h];exact⟨rfl,rfl⟩
theorem Mc(x:Int):(u4 x).length=4:=jn _ _
theorem Xt: ∀l:List Int,(l.flatMap u4).length=4*l.length
 | []=>rfl
 | x::l=>by rw[List.flatMap_cons,qN,Mc,Xt l,qv];omega
theorem Md(l:List Int):(lvB l).length=1+4*l.length:=by unfold lvB;rw[qN,jn,Xt]
theorem Vr(a b:LvL):uY (a++b)=uY a++uY b:=by unfold uY;rw[List.flatMap_append]
theorem Vs(x:List Int)(L:LvL):uY (x::L)=lvB x++uY L:=by unfold uY;rw[List.flatMap_cons]
theorem Mf(x:List Int):uY [x]=lvB x:=by rw[Vs];show _++[]=_;rw[List.append_nil]
theorem Xa: ∀L:LvL,(uY L).length=L.length+4*L.flatten.length
 | []=>rfl
 | x::L=>by rw[Vs,qN,Md,Xa L,qv,List.flatten_cons,qN];omega
theorem Mh(m:kJ):(Xs m).length=20:=by
 unfold Xs;rw[qN,qN,qN,jn,jn,jn];rfl
theorem Xe(m:kJ):(mh m).length=21:=by unfold mh;rw[qN,Mh,jn]
theorem Ml(m:kJ):(mfB m).size=25+(uY (kO m.lv)).length:=by unfold mfB;rw[l7,kK];unfold pz;rw[qN,Xe];omega
theorem vX.zO{m:kJ}(h:vX m):(kO m.lv).length<=5/\(kO m.lv).flatten.length<=40/\∀x∈kO m.lv,x.length<=40/\∀y∈x,0<=y/\y<4294967296:=by
 obtain⟨o,p,q,r,d,i⟩:=h;have e:=pU m.lv;have s:=Qs m.lv;have k:(kO m.lv).flatten.length<=40:=by rw[e];exact d.2.1
 refine⟨by have:=d.1;omega,k,fun x g=>⟨?_,fun y l=>?_⟩⟩
 ·have j:∀(L:LvL),x∈L->x.length<=L.flatten.length:=by
   intro L
   induction L with
   | nil=>intro h;cases h
   | cons z L n =>
     intro h;rw[List.flatten_cons,qN];rcases qL.1 h with rfl|h
     ·omega
     ·have:=n h;omega
  have:=j _ g;omega
 ·have f:y∈m.lv.flatten:=by rw[<-e];exact List.mem_flatten.2 ⟨x,g,l⟩
  have a:=d.2.2.1 y f;have b:=i y f;omega
theorem tK{m:kJ}(h:vX m):(mfB m).size<=190:=by
 obtain⟨a,b,-⟩:=h.zO;rw[Ml,Xa];omega
def num(s:Tw)(p n:Nat):Nat:=jz (s.extract p (p+n))
def place(T:LvL)(i:Nat):Nat:=21+(uY (T.take i)).length
def jh: Tw:=⟨#[109,97,112]⟩
def jO: Tw:=⟨#[110,101,119]⟩
theorem Xi: jh≠jO:=by decide +kernel
theorem Mm: ks jh=true:=by decide +kernel
theorem Mn: ks jO=true:=by decide +kernel
def uU(D:jD)(m:kJ):Nat × jD :=
 if ¬vX m then(2,D)
 else if D.down=true then(61,D)
 else if (jg D jO).1≠0/\(jg D jO).1≠4 then jg D jO
 else if ((jg D jO).2.cap:Int)-(jM (jg D jO).2.l:Nat)-((mfB m).size:Nat)<6000 then(60,(jg D jO).2)
 else if (ji (jg D jO).2 jO (mfB m)).1≠0 then ji (jg D jO).2 jO (mfB m)
 else vI (ji (jg D jO).2 jO (mfB m)).2 jO jh
theorem Mp{D:jD}(ok:WfP D)(m:kJ):WfP (uU D m).2:=by
 unfold uU;have a:=dO ok jO;have b:=nf a jO (mfB m);split
 ·exact ok
 ·split
  ·exact ok
  ·split
   ·exact a
   ·split
    ·exact a
    ·split
     ·exact b
     ·exact XE b _ _
theorem Mr{D:jD}{m:kJ}(a:¬vX m):uU D m=(2,D):=by unfold uU;rw[qV a]
def gT(a:List Int)(n:Tw):Bool:=decide (n=jO)||(vq n&&!decide (npK n=99)&&!decide ((npN n:Int)∈a))
def gq(l:List Tw)(m:kJ):List Tw:=l.filter (gT m.lv.flatten)
def fg: jD->List Tw->Nat × jD
 | D,[]=>(0,D)
 | D,n::ns=>if (jg D n).1≠0 then jg D n else fg (jg D n).2 ns
def mn(D:jD)(m:kJ):Nat × jD:=if D.down=true then(61,D) else fg D (gq (D.l.map jI.name) m)
abbrev jl(D:jD):List Tw:=D.l.map jI.name
theorem pj(n:Tw):∀l:List jI,(l.map jI.name).Nodup->(kx l (j8 l n)).map jI.name=(l.map jI.name).filter (fun x=>!decide (x=n))
 | [],_=>rfl
 | x::l,hd=>by
   obtain⟨b,d⟩:=List.nodup_cons.1 (show(x.name::l.map jI.name).Nodup from hd);have a:=pj n l d;unfold kx j8 at a ⊢;rw[List.findIdx_cons,List.map_cons];by_cases e:x.name=n
   ·rw[qB e,List.filter_cons_of_neg (by simp[e])];show l.map jI.name=_;refine(List.filter_eq_self.2 fun y f=>?_).symm;have:y≠n:=fun h=>b (e.trans h.symm ▸ f)
    simpa using this
   ·rw[qA e,List.filter_cons_of_pos (by simp[e])];simp only[cond_false,List.take_succ_cons,List.drop_succ_cons,List.cons_append,List.map_cons];rw[a]
theorem Ms{l:List jI}{n:Tw}(h:n∈l.map jI.name):∃f,jN l n=some f:=by
 obtain⟨f,a,rfl⟩:=qP.1 h;cases e:jN l f.name with
 | some g=>exact⟨g,rfl⟩
 | none =>
   unfold jN at e;have:=List.find?_eq_none.1 e f a;simp at this
end
section
open Go.RowKit
theorem Mt{l:List jC}{x y:jC}(h:y∈l):y∈vz l x:=by
 unfold vz;split
 ·exact h
 ·rw[<-qe (vW l x) l]at h;rcases qE.1 h with h|h
  ·exact qW _ (qW _ h)
  ·exact qJ _ h
theorem Ma(l:List jC)(x:jC):x∈vz l x:=by
 unfold vz;split
 ·rename_i h;exact qM h
 ·exact qW _ (qJ _ (qH.2 rfl))
theorem Me{l:List jC}{x y:jC}:y∈vz l x↔y∈l∨y=x :=
 ⟨tJ,fun h=>by
  rcases h with h|rfl
  ·exact Mt h
  ·exact Ma l y⟩
theorem Vt{l:List jC}(a:kG l){x:jC}(h:x∈l):l[vW l x]? = some x:=by
 rcases Decidable.em (l[vW l x]? = some x) with c|c
 ·exact c
 ·rw[<-qe (vW l x) l]at h;rcases qE.1 h with h|h
  ·have:=Xh l x x h;rw[px]at this;cases this
  ·have:=Vc a c x h;rw[px]at this;cases this
theorem Mi{l:List jC}(a:kG l){x:jC}:l[vW l x]? = some x↔x∈l:=⟨qM,Vt a⟩
theorem Mo{l:List jC}(a:kG l){x:jC}(h:x∈l):vz l x=l:=by unfold vz;rw[qV (Vt a h)]
theorem Mw{l:List jC}{x:jC}(h:x ∉ l):vz l x=l.take (vW l x)++([x]++l.drop (vW l x)):=by
 unfold vz;rw[qZ (fun k=>h (qM k)),qn]
theorem NQ{l:List jC}(j:kG l){x y:jC}{i:Nat}(h:l[i]? = some y):(!jb y x)=decide (vW l x<=i):=by
 by_cases c:vW l x<=i
 ·rw[qB c];cases d:jb y x with
  | false=>rfl
  | true =>
    exfalso;have b:=(qO.1 h).1;have f:vW l x<l.length:=(by omega);have a:(!jb l[vW l x] x)=true:=List.findIdx_getElem (p:=fun y=>!jb y x) (xs:=l) (w:=f);rw[Bool.not_eq_true']at a;rcases qh (vW l x) i with k|k
    ·have:=xY.1 j (vW l x) i f b k;rw[qD b]at h;rw[qb h]at this;rw[l9 this d]at a;cases a
    ·have e:i=vW l x:=(by omega);subst e;rw[qD b]at h;rw[qb h,d]at a;cases a
 ·rw[qA c];have g:y∈l.take (vW l x):=qM (i:=i) (by rw[List.getElem?_take,qV (by omega)];exact h);rw[Xh l x y g];rfl
def fY(m:Option jC):List jC->Option jC
 | []=>m
 | x::_=>match m with
   | none=>some x
   | some y=>if jb x y=true then some x else some y
def yq(L:List (List jC)):Option jC:=L.foldl fY none
def yx(e:jC)(l:List jC):List jC:=l.dropWhile (fun x=>decide (x=e))
def cJ(a:List jC)(e:jC):List jC:=if a.getLast? = some e then a else a++[e]
def kr(L:List (List jC)):Nat:=(L.map List.length).sum
def yi: Nat->List jC->List (List jC)->List jC
 | 0,a,_=>a
 | n+1,a,L=>match yq L with
   | none=>a
   | some e=>yi n (cJ a e) (L.map (yx e))
def mrg(a:List jC)(L:List (List jC)):List jC:=yi (kr L) a L
def dT(L:List (List jC)):List jC:=mrg [] L
theorem Xo{L:List (List jC)}{i:Nat}{l:List jC}(h:L[i]? = some l):yq (L.take (i+1))=fY (yq (L.take i)) l:=by
 unfold yq;rw[qw,h,List.foldl_append];rfl
theorem Xw: ∀(L:List (List jC)) (m:Option jC),L.foldl fY m=none↔m=none/\∀l∈L,l=[]
 | [],m=>by simp
 | []::L,m=>by
   rw[List.foldl_cons,Xw L];simp[fY]
 | (x::t)::L,m=>by
   rw[List.foldl_cons,Xw L];constructor
   ·rintro ⟨h,_⟩;cases m with
    | none=>cases h
    | some y =>
      simp only[fY]at h;split at h<;>cases h
   ·rintro ⟨_,h⟩;have:=h (x::t) qC;cases this
theorem tV{L:List (List jC)}:yq L=none↔∀l∈L,l=[]:=by
 unfold yq;rw[Xw];simp
theorem NX{x y e:jC}(h:jb x y=false)(k:jb y e=false):jb x e=false:=by
 cases c:jb x e with
 | false=>rfl
 | true =>
   by_cases a:y=e
   ·subst a;rw[c]at h;cases h
   ·have:=l9 c (Xu k a);rw[this]at h;cases h
theorem tY: ∀(L:List (List jC)) (m:Option jC) (e:jC),L.foldl fY m=some e ->
  (m=some e∨∃l∈L,∃t,l=e::t)/\(∀y,m=some y->jb y e=false)/\∀l∈L,∀x t,l=x::t->jb x e=false
 | [],m,e,h=>by
   have q:m=some e:=h;subst q;exact⟨qX rfl,fun y p=>by cases p;exact px _,fun l b=>by cases b⟩
 | []::L,m,e,h=>by
   rw[List.foldl_cons]at h;obtain⟨a,f,k⟩:=tY L m e h;refine⟨?_,f,fun l b x t i=>?_⟩
   ·rcases a with a|⟨l,b,t,o⟩
    ·exact qX a
    ·exact qY ⟨l,qF _ b,t,o⟩
   ·rcases qL.1 b with rfl|b
    ·cases i
    ·exact k l b x t i
 | (x::t)::L,m,e,h=>by
   rw[List.foldl_cons]at h;obtain⟨a,f,k⟩:=tY L _ e h
   have i:jb x e=false/\(∀y,m=some y->jb y e=false)/\(m=some e∨∃l∈(x::t)::L,∃t,l=e::t):=by
    have j:(∃l∈L,∃t,l=e::t)->∃l∈(x::t)::L,∃t,l=e::t:=fun⟨l,b,r,o⟩=>⟨l,qF _ b,r,o⟩
    cases m with
    | none =>
      refine⟨f x rfl,fun y p=>(by cases p), ?_⟩;rcases a with a|a
      ·have:x=e:=qb a;subst this;exact qY ⟨_,qC,t,rfl⟩
      ·exact qY (j a)
    | some y =>
      cases c:jb x y with
      | true =>
        have n:fY (some y) (x::t)=some x:=(by unfold fY;simp only;rw[qV c]);rw[n]at a f;refine⟨f x rfl,fun z g=>?_, ?_⟩
        ·cases g;cases d:jb y e with
         | false=>rfl
         | true=>have:=l9 c d;rw[f x rfl]at this;cases this
        ·rcases a with a|a
         ·have:x=e:=qb a;subst this;exact qY ⟨_,qC,t,rfl⟩
         ·exact qY (j a)
      | false =>
        have n:fY (some y) (x::t)=some y:=(by unfold fY;simp only;rw[qZ (by rw[c];decide)]);rw[n]at a f;refine⟨NX c (f y rfl),fun z g=>by cases g;exact f y rfl, ?_⟩;rcases a with a|a
        ·exact qX a
        ·exact qY (j a)
   refine⟨i.2.2,i.2.1,fun l b z u g=>?_⟩;rcases qL.1 b with rfl|b
   ·injection g with g;rw[<-g];exact i.1
   ·exact k l b z u g
theorem lq{L:List (List jC)}{e:jC}(h:yq L=some e):∃l∈L,∃t,l=e::t:=by
 rcases(tY L none e h).1 with h|h
 ·cases h
 ·exact h
theorem NZ{L:List (List jC)}{e:jC}(h:yq L=some e):∀l∈L,∀x t,l=x::t->jb x e=false:=(tY L none e h).2.2
theorem ZQ(e:jC)(l:List jC):(yx e l).length<=l.length:=(List.dropWhile_sublist _).length_le
theorem tU(e:jC)(t:List jC):yx e (e::t)=yx e t:=by unfold yx;rw[List.dropWhile_cons,qV (by simp)]
theorem ZX{e x:jC}(h:x≠e)(t:List jC):yx e (x::t)=x::t:=by unfold yx;rw[List.dropWhile_cons,qZ (by simpa using h)]
theorem bU(l:List jC)(L:List (List jC)):kr (l::L)=l.length+kr L:=by unfold kr;simp
theorem Va(e:jC):∀L:List (List jC),kr (L.map (yx e))<=kr L
 | []=>qK _
 | l::L=>by
   rw[List.map_cons,bU,bU];have:=Va e L;have:=ZQ e l;omega
theorem pk(e:jC):∀L:List (List jC),(∃l∈L,∃t,l=e::t)->kr (L.map (yx e))<kr L
 | [],h=>by obtain⟨l,b,_⟩:=h;cases b
 | l::L,⟨m,a,t,ht⟩=>by
   rw[List.map_cons,bU,bU];have d:=Va e L;have f:=ZQ e l;rcases qL.1 a with rfl|a
   ·subst ht;have g:=ZQ e t;rw[tU,qv];omega
   ·have:=pk e L ⟨m,a,t,ht⟩;omega
theorem ZZ{L:List (List jC)}(h:kr L=0):yq L=none:=by
 rw[tV]
 induction L with
 | nil=>intro l b;cases b
 | cons a L d =>
   rw[bU]at h;intro l b;rcases qL.1 b with rfl|b
   ·exact xK.1 (by omega)
   ·exact d (by omega) l b
theorem Ve: ∀(n m:Nat) (a:List jC) (L:List (List jC)),kr L<=n->kr L<=m->yi n a L=yi m a L
 | 0,0,a,L,_,_=>rfl
 | 0,m+1,a,L,h,_=>by
   have:=ZZ (L:=L) (by omega);rw[yi,yi,this]
 | n+1,0,a,L,_,h=>by
   have:=ZZ (L:=L) (by omega);rw[yi,yi,this]
 | n+1,m+1,a,L,h1,h2=>by
   rw[yi,yi];cases c:yq L with
   | none=>rfl
   | some e =>
     have:=pk e L (lq c);exact Ve n m _ _ (by omega) (by omega)
theorem NJ{a:List jC}{L:List (List jC)}(h:yq L=none):mrg a L=a:=by
 unfold mrg;cases kr L with
 | zero=>rfl
 | succ n=>rw[yi,h]
theorem NK{a:List jC}{L:List (List jC)}{e:jC}(h:yq L=some e):mrg a L=mrg (cJ a e) (L.map (yx e)):=by
 have d:=pk e L (lq h);unfold mrg;obtain⟨n,b⟩:∃n,kr L=n+1:=⟨kr L-1,by omega⟩
 rw[b,yi,h];exact Ve _ _ _ _ (by omega) (qK _)
theorem NV(a:List jC)(e:jC):a.length<=(cJ a e).length/\(cJ a e).length<=a.length+1:=by
 unfold cJ;split
 ·omega
 ·rw[qN,List.length_singleton];omega
theorem ZJ: ∀(n:Nat) (a:List jC) (L:List (List jC)),kr L<=n->a.length<=(yi n a L).length/\(yi n a L).length<=a.length+kr L
 | 0,a,L,_=>⟨qK _,by rw[yi];omega⟩
 | n+1,a,L,h=>by
   rw[yi];cases c:yq L with
   | none=>exact⟨qK _,by simp only;omega⟩
   | some e =>
     have h1:=pk e L (lq c);have b:=NV a e;have d:=ZJ n (cJ a e) (L.map (yx e)) (by omega);exact⟨by simp only;omega,by simp only;omega⟩
theorem NY(a:List jC)(L:List (List jC)):a.length<=(mrg a L).length:=(ZJ _ a L (qK _)).1
theorem Vi(L:List (List jC)):(dT L).length<=kr L:=by
 have:=(ZJ _ [] L (qK _)).2;rw[List.length_nil,qa]at this;exact this
def pv(a:List jC)(L:List (List jC)):List (List jC):=match a.getLast? with
 | none=>L
 | some e=>L.map (yx e)
def dJ(a:List jC)(L:List (List jC)):List jC:=mrg a (pv a L)
theorem Vo{a:List jC}{L:List (List jC)}(d:∀l∈L,∀x t,l=x::t->a.getLast?≠some x):pv a L=L:=by
 unfold pv;cases h:a.getLast? with
 | none=>rfl
 | some e =>
   show L.map (yx e)=L
   have:∀l∈L,yx e l=l:=fun l b=>by
    cases l with
    | nil=>rfl
    | cons x t=>exact ZX (fun f=>d _ b x t rfl (by rw[h,f])) t
   rw[List.map_congr_left this];exact List.map_id' L
theorem NU{a:List jC}{L:List (List jC)}{i:Nat}{e:jC}{t:List jC}(d:a.getLast? = some e)(h:L[i]? = some (e::t)):dJ a (L.set i t)=dJ a L:=by
 unfold dJ pv;rw[d];show mrg a ((L.set i t).map (yx e))=mrg a (L.map (yx e));congr 1;apply xV;intro j;rw[qu,qu,List.getElem?_set];by_cases b:i=j
 ·subst b;have f:=(qO.1 h).1;rw[qV rfl,qV f,h];show some (yx e t)=some (yx e (e::t));rw[tU]
 ·rw[qZ b]
theorem NG{a:List jC}{L:List (List jC)}{e:jC}(h:yq L=some e)(b:∀l∈L,∀x t,l=x::t->a.getLast?≠some x):dJ (a++[e]) L=dJ a L:=by
 have d:a.getLast?≠some e:=by
  obtain⟨l,f,t,g⟩:=lq h;exact b l f e t g
 unfold dJ;rw[Vo b,NK h];unfold cJ pv;rw[qZ d,List.getLast?_append,List.getLast?_singleton];rfl
theorem NW{a:List jC}{L:List (List jC)}(h:yq L=none):dJ a L=a:=by
 unfold dJ;rw[Vo (fun l d x t b=>by have:=tV.1 h l d;rw[this]at b;cases b),NJ h]
theorem NA(a:List jC)(L:List (List jC)):a.length<=(dJ a L).length:=NY _ _
theorem Vw: ∀ {L:List (List jC)} {i:Nat} {e:jC} {t:List jC},L[i]? = some (e::t)->kr (L.set i t)+1=kr L
 | [],i,e,t,h=>by simp at h
 | l::L,0,e,t,h=>by
   obtain rfl:l=e::t:=(by simpa using h);rw[List.set_cons_zero,bU,bU,qv];omega
 | l::L,i+1,e,t,h=>by
   have:=Vw (L:=L) (i:=i) (e:=e) (t:=t) (by simpa using h);rw[List.set_cons_succ,bU,bU];omega
def lx(k:Nat)(a:List jC)(L:List (List jC)):Prop:=2*kr L+1<=k∨(2*kr L<=k/\∃l∈L,∃e t,l=e::t/\a.getLast? = some e)
theorem NB(L:List (List jC)):lx (2*kr L+1) [] L:=qX (qK _)
theorem NC{k:Nat}{a:List jC}{L:List (List jC)}{i:Nat}{e:jC}{t:List jC}(b:lx k a L)(h:L[i]? = some (e::t)):0<k/\lx (k-1) a (L.set i t):=by
 have d:=Vw h;have f:2*kr L<=k:=by rcases b with h|h;omega;exact h.1
 exact⟨by omega,qX (by omega)⟩
theorem ND{k:Nat}{a:List jC}{L:List (List jC)}{e:jC}(i:lx k a L)(h:yq L=some e)(j:∀l∈L,∀x t,l=x::t->a.getLast?≠some x):0<k/\lx (k-1) (a++[e]) L:=by
 have m:2*kr L+1<=k:=by
  rcases i with h|⟨_,l,b,f,t,d,g⟩
  ·exact h
  ·exact absurd g (j l b f t d)
 obtain⟨l,b,t,d⟩:=lq h;exact⟨by omega,qY ⟨by omega,l,b,e,t,d,by rw[List.getLast?_append,List.getLast?_singleton];rfl⟩⟩
theorem NF{a:List jC}{e x:jC}:x∈cJ a e↔x∈a∨x=e:=by
 unfold cJ;split
 ·rename_i h;constructor
  ·exact qX
  ·rintro (b|rfl)
   ·exact b
   ·exact List.mem_of_getLast? h
 ·simp
theorem ZK{e x:jC}{l:List jC}(h:x∈yx e l):x∈l:=(List.dropWhile_sublist _).subset h
theorem YQ(e:jC){x:jC}:∀ {l:List jC},x∈l->x=e∨x∈yx e l
 | [],h=>by cases h
 | y::l,h=>by
   by_cases hy:y=e
   ·subst hy;rw[tU];rcases qL.1 h with rfl|h
    ·exact qX rfl
    ·exact YQ y h
   ·rw[ZX hy];exact qY h
theorem YX: ∀(n:Nat) (a:List jC) (L:List (List jC)) (x:jC),kr L<=n->(x∈yi n a L↔x∈a∨∃l∈L,x∈l)
 | 0,a,L,x,h=>by
   have:=tV.1 (ZZ (L:=L) (by omega));rw[yi];constructor
   ·exact qX
   ·rintro (h|⟨l,b,d⟩)
    ·exact h
    ·rw[this l b]at d;cases d
 | n+1,a,L,x,h=>by
   rw[yi];cases c:yq L with
   | none =>
     have:=tV.1 c;constructor
     ·exact qX
     ·rintro (h|⟨l,b,d⟩)
      ·exact h
      ·rw[this l b]at d;cases d
   | some e =>
     have g:=pk e L (lq c);show x∈yi n (cJ a e) (L.map (yx e))↔_;rw[YX n (cJ a e) (L.map (yx e)) x (by omega),NF];constructor
     ·rintro ((h|rfl)|⟨l,b,d⟩)
      ·exact qX h
      ·obtain⟨l,b,t,rfl⟩:=lq c;exact qY ⟨_,b,qC⟩
      ·obtain⟨m,f,rfl⟩:=qP.1 b;exact qY ⟨m,f,ZK d⟩
     ·rintro (h|⟨l,b,d⟩)
      ·exact qX (qX h)
      ·rcases YQ e d with h|h
       ·exact qX (qY h)
       ·exact qY ⟨_,List.mem_map_of_mem b,h⟩
theorem YZ{L:List (List jC)}{x:jC}:x∈dT L↔∃l∈L,x∈l:=by
 unfold dT mrg;rw[YX _ _ _ _ (qK _)];simp
theorem NH{a:List jC}{e:jC}(b:kG a)(h:∀x∈a,jb x e=true):kG (a++[e]) :=
 List.pairwise_append.2 ⟨b,List.pairwise_singleton _ _,fun x d y f=>by rw[qH.1 f];exact h x d⟩
theorem NI{e:jC}{l:List jC}(g:kG l)(f:∀x t,l=x::t->jb x e=false):∀y∈yx e l,jb e y=true:=by
 cases l with
 | nil=>intro y a;cases a
 | cons x t =>
   obtain⟨d,i⟩:=xU.1 g;by_cases b:x=e
   ·subst b;rw[tU];intro y a;exact d y (ZK a)
   ·rw[ZX b];have:=Xu (f x t rfl) b;intro y a;rcases qL.1 a with rfl|a
    ·exact this
    ·exact l9 this (d y a)
theorem YJ: ∀(n:Nat) (a:List jC) (L:List (List jC)),kG a->(∀l∈L,kG l)->(∀x∈a,∀l∈L,∀y∈l,jb x y=true)->kG (yi n a L)
 | 0,a,L,h,_,_=>h
 | n+1,a,L,ha,hL,hal=>by
   rw[yi];cases c:yq L with
   | none=>exact ha
   | some e =>
     obtain⟨l,i,t,p⟩:=lq c;have g:e∈l:=by rw[p];exact qC
     have o:cJ a e=a++[e]:=by
      unfold cJ;rw[qZ];intro h;have:=hal e (List.mem_of_getLast? h) l i e g;rw[px]at this;cases this
     show kG (yi n (cJ a e) (L.map (yx e)));rw[o];refine YJ n _ _ (NH ha fun x b=>hal x b l i e g) (fun m f=>?_) (fun x b m f y j=>?_)
     ·obtain⟨k,d,rfl⟩:=qP.1 f;exact List.Pairwise.sublist (List.dropWhile_sublist _) (hL k d)
     ·obtain⟨k,d,rfl⟩:=qP.1 f;rcases qE.1 b with b|b
      ·exact hal x b k d y (ZK j)
      ·rw[qH.1 b];exact NI (hL k d) (fun z u q=>NZ c k d z u q) y j
theorem YK{L:List (List jC)}(h:∀l∈L,kG l):kG (dT L):=YJ _ _ _ List.Pairwise.nil h (fun x a=>by cases a)
theorem NL{l:List Tw}{m:kJ}{j:Nat}{x:Tw}(h:l[j]? = some x):gq (l.take (j+1)) m=gq (l.take j) m++(if gT m.lv.flatten x=true then [x] else []):=by
 unfold gq;rw[qw,h,List.filter_append];congr 1;show [x].filter _=_;by_cases a:gT m.lv.flatten x=true
 ·rw[qV a,List.filter_cons_of_pos a,List.filter_nil]
 ·rw[qZ a,List.filter_cons_of_neg a,List.filter_nil]
theorem YV(l:List Tw)(m:kJ):(gq l m).length<=l.length:=List.length_filter_le _ _
theorem NN{n:Tw}(h:ks n=true):n.size<=maxLen:=by
 unfold ks at h;simp only[Bool.and_eq_true,decide_eq_true_eq]at h;exact qR h.2 (by decide)
theorem DS.names{At:jR}{g w:World}{gd:Nat}{D:jD}{E:List Nat}(api:jS At)(h:DS At g gd D E w):∀x∈D.l.map jI.name,x.size<=maxLen:=by
 obtain⟨F,a,i,j⟩:=h;intro x d;obtain⟨f,b,rfl⟩:=qP.1 d;exact NN ((api.xH a).2 f b)
theorem NO(s:Tw)(w:World)(d:s.size<=maxLen):
  Calls prog 46 #[s] w (X3 (.bool (stS s)) w):=by
 unfold maxLen at d;unfold stS;by_cases a:1<=s.size
 ·have f:decide ((1:Int)<=(s.size:Int))=true:=qB (by omega);by_cases b:s.size<=32
  ·have g:decide ((s.size:Int)<=32)=true:=qB (by omega);rw[qB ⟨a,b⟩];go_enter func46,ntmps46;go_wp2;go_ret;exact⟨rfl,qU _ _⟩
  ·have g:decide ((s.size:Int)<=32)=false:=qA (by omega);rw[qA (fun h=>b h.2)];go_enter func46,ntmps46;go_wp2;go_ret;exact⟨rfl,qU _ _⟩
 ·have f:decide ((1:Int)<=(s.size:Int))=false:=qA (by omega);rw[qA (fun h=>a h.1)];go_enter func46,ntmps46;go_wp2;go_ret;exact⟨rfl,qU _ _⟩
theorem NP(c:UInt8)(n:Int)(w:World)(h:¬(0<=n/\n<=999999)):
  Calls prog 186 #[.int .u8 (c.toNat:Nat),n] w (X3 (.string ByteArray.empty) w):=by
 by_cases a:n<0
 ·have b:decide (n<0)=true:=qB a;clear h;go_enter func186,ntmps186;go_wp2;go_ret;exact⟨rfl,qU _ _⟩
 ·have b:decide (n<0)=false:=qA a;have d:decide (999999<n)=true:=qB (by omega);clear h;go_enter func186,ntmps186;go_wp2;go_ret;exact⟨rfl,qU _ _⟩
theorem NR(l:List UInt8)(i:Nat)(b:UInt8)(hi:i<l.length)(j:Nat):(if j=i then Value.int .u8 ((b.toNat:Nat):Int) else lH l j)=lH (l.set i b) j:=by
 unfold lH;by_cases e:j=i
 ·subst e;rw[qV rfl,qj,List.getElem?_set_self hi];rfl
 ·rw[qZ e,qj,qj,List.getElem?_set_ne (fun h=>e h.symm)]
def nmL(c:UInt8)(k n:Nat):List UInt8:=c::(List.replicate (6-k) 0++de k n)
theorem YY(c:UInt8)(k n:Nat)(a:k<=6):(nmL c k n).length=7:=by simp[nmL,ni];omega
theorem NS(c:UInt8)(k n:Nat)(f:k<6):(nmL c k n).set (6-k) (UInt8.ofNat (48+n/10 ^ k%10))=nmL c (k+1) n:=by
 obtain⟨j,a⟩:∃j,6-k=j+1:=⟨5-k,by omega⟩
 have b:6-(k+1)=j:=by omega
 have d:(List.replicate j (0:UInt8)).length=j:=List.length_replicate;unfold nmL;rw[a,b,List.set_cons_succ,de,List.replicate_succ',qn,List.set_append_right _ _ (by omega),d,Nat.sub_self,List.singleton_append,List.set_cons_zero]
theorem NT(c:UInt8)(n:Nat)(w:World)(h:n<=999999):
  Calls prog 186 #[.int .u8 (c.toNat:Nat),n] w (X3 (.string (bs (c::de 6 n))) w):=by
 have A:decide ((n:Int)<0)=false:=qA (by omega);have B:decide ((999999:Int)<(n:Int))=false:=qA (by omega);go_enter func186,ntmps186;go_wp2;go_loopw [1,15] (fun m i wr=>∃k:Nat,k<=6/\i=.int .i64 k/\m=.int .i64 (n/10 ^ k:Nat)/\RowB wr w.1.size 7 (lH (nmL c k n))/\Below w.1.size w wr) (fun _ i _=>6-(intOf i).toNat)
 case atStart =>
  refine⟨0,qI _,rfl,by simp, ?_, ?_⟩
  ·refine⟨_,287,(0,0),(show(w.heap.push _)[w.1.size]? = _ from Array.getElem?_push_size),qK 7,qX rfl,fun i r=>?_⟩;have q:nmL c 0 n=[c,0,0,0,0,0,0]:=rfl;rw[q]
   match i,r with
   | 0,_|1,_|2,_|3,_|4,_|5,_|6,_=>rfl
  ·exact(qU _ _).alloc (qK _) _
 case round =>
  obtain⟨k,s,rfl,rfl,b,f⟩:=hrel;by_cases t:k<6
  ·obtain⟨m,a⟩:∃m,n/10 ^ k=m:=⟨_,rfl⟩
   have g:n/10 ^ (k+1)=m/10:=(by rw[Nat.pow_succ,<-Nat.div_div_eq_div_mul,a]);have z:m<=999999:=(by rw[<-a];exact qR (Nat.div_le_self _ _) h);rw[a];have p:=qQ g;have u:=b.cell (i:=6-k) (by omega);have y:=b.frozen (i:=6-k) (by omega);have l:=b.set (6-k) (.int .u8 ((UInt8.ofNat (48+m%10)).toNat:Nat));have d:=l.congr (fun j _=>NR _ _ _ (by rw[YY c k n s];omega) j);rw[<-a,NS c k n t,a,oQ _ (Nat.mod_lt _ (by decide))]at d;have o:=qQ d;clear a g l d;clear b;go_wp2;go_roundw
   case rel =>
    refine⟨k+1,by omega,by go_num,by rw[p.out];go_num, ?_, ?_⟩
    ·exact o.out
    ·exact f.setCell (by simp) _
   case measure=>simp[intOf];omega
  ·obtain rfl:k=6:=(by omega);have v:=KJ b (YY c 6 n (qK _)) 7;go_wp2;go_ret;exact⟨rfl,f⟩
theorem ZV(c:UInt8)(n:Int)(w:World):
  Calls prog 186 #[.int .u8 (c.toNat:Nat),n] w (X3 (.string (nmS c n)) w):=by
 by_cases h:0<=n/\n<=999999
 ·obtain⟨k,rfl⟩:∃k:Nat,n=k:=⟨n.toNat,by omega⟩
  rw[fJ (by omega)];exact NT c k w (by omega)
 ·rw[Lp h];exact NP _ n w h
theorem N0(n:Int)(w:World):Calls prog 128 #[n] w (X3 (.string (nmS 99 n)) w):=by
 have h:Calls prog 186 #[.int .u8 99,n] w (X3 (.string (nmS 99 n)) w):=ZV 99 n w
 generalize nmS 99 n=s at*;have H:=qQ h;clear h;go_enter func128,ntmps128;go_wp2_with fail;refine(H.out).mono ?_;rintro _ b⟨rfl,a⟩;go_wp2;go_ret;exact⟨rfl,a⟩
theorem N3(n:Int)(w:World):Calls prog 123 #[n] w (X3 (.string (nmS 116 n)) w):=by
 have h:Calls prog 186 #[.int .u8 116,n] w (X3 (.string (nmS 116 n)) w):=ZV 116 n w
 generalize nmS 116 n=s at*;have H:=qQ h;clear h;go_enter func123,ntmps123;go_wp2_with fail;refine(H.out).mono ?_;rintro _ b⟨rfl,a⟩;go_wp2;go_ret;exact⟨rfl,a⟩
theorem N5(n:Int)(w:World):Calls prog 124 #[n] w (X3 (.string (nmS 98 n)) w):=by
 have h:Calls prog 186 #[.int .u8 98,n] w (X3 (.string (nmS 98 n)) w):=ZV 98 n w
 generalize nmS 98 n=s at*;have H:=qQ h;clear h;go_enter func124,ntmps124;go_wp2_with fail;refine(H.out).mono ?_;rintro _ b⟨rfl,a⟩;go_wp2;go_ret;exact⟨rfl,a⟩
theorem YU(c:UInt8)(w:World):Calls prog 189 #[.int .u8 (c.toNat:Nat)] w (X0 (.bool (isK c)) w):=by
 by_cases a:c.toNat=99
 ·obtain rfl:c=99:=UInt8.toNat_inj.1 a;go_enter func189,ntmps189;go_wp2;go_ret;exact⟨rfl,rfl⟩
 ·by_cases b:c.toNat=116
  ·obtain rfl:c=116:=UInt8.toNat_inj.1 b;go_enter func189,ntmps189;go_wp2;go_ret;exact⟨rfl,rfl⟩
  ·by_cases d:c.toNat=98
   ·obtain rfl:c=98:=UInt8.toNat_inj.1 d;go_enter func189,ntmps189;go_wp2;go_ret;exact⟨rfl,rfl⟩
   ·have f:isK c=false:=by
     simp only[isK,Bool.or_eq_false_iff,beq_eq_false_iff_ne];exact⟨⟨fun e=>a (by rw[e];rfl),fun e=>b (by rw[e];rfl)⟩,fun e=>d (by rw[e];rfl)⟩
    have g:((c.toNat:Int)==99)=false:=qg.2 (by omega);have i:((c.toNat:Int)==116)=false:=qg.2 (by omega);have j:((c.toNat:Int)==98)=false:=qg.2 (by omega);rw[f];clear f a b d;go_enter func189,ntmps189;go_wp2;go_ret;exact⟨rfl,rfl⟩
def YG(w:World)(e:Ending)(w':World):Prop:=e=.returned (.tuple #[.int .u8 0,.int .i64 0,.bool false])/\w=w'
theorem N7(s:Tw)(w:World)(a:s.size<=maxLen)(h:¬s.size=7):
  Calls prog 126 #[s] w (YG w):=by
 unfold maxLen at a;have b:((s.size:Int) != 7)=true:=by simp;omega
 have d:((s.size:Int)==7)=false:=qg.2 (by omega);clear h;go_enter func126,ntmps126;go_wp2;go_ret3;exact⟨rfl,rfl⟩
theorem N8(s:Tw)(w:World)(d:0<s.size)(h:s.size=7)(c:UInt8)(f:s[0]'d=c)(b:isK c=false):
  Calls prog 126 #[s] w (YG w):=by
 have i:((s.size:Int) != 7)=false:=by simp;omega
 have j:((s.size:Int)==7)=true:=beq_iff_eq.2 (by omega);have g:(0:Int)<(s.size:Int):=by omega
 have a:=qQ (YU c);clear h;go_enter func126,ntmps126;go_wp2_with fail;refine(a.out w).mono ?_;rintro _ _⟨rfl,rfl⟩;rw[b];go_wp2;go_ret3;exact⟨rfl,rfl⟩
theorem N9(s:Tw)(w:World)(hz:0<s.size)(h:s.size=7)(c:UInt8)(l:List UInt8)(g:s.data.toList=c::l)(A:isK c=true):
  Calls prog 126 #[s] w (X0 (.tuple #[.int .u8 (npK s:Nat),.int .i64 (npN s:Nat),.bool (vq s)]) w):=by
 have t1:((s.size:Int) != 7)=false:=by simp;omega
 have t2:((s.size:Int)==7)=true:=beq_iff_eq.2 (by omega);have aa:l.length=6:=by have:=pS s;rw[g,qv]at this;omega
 have hc:=VR g hz;have aj:(0:Int)<(s.size:Int):=by omega
 have T:=qQ fun(j:Nat) (k:j<l.length)=>(⟨by omega,La g j k (by omega)⟩:∃hs:j+1<s.size,s[j+1]'hs=l[j])
 have J:=qQ fun(b:∀x∈l,isD x=true)=>VN c l aa A b
 have M:bs (c::l)=s:=by rw[<-g,VI]
 rw[M]at J
 have Z:=qQ fun(j:Nat) (k:j<l.length) (f:isD l[j]=false)=>si (s:=s) (fun c' l' e=>by
  rw[g]at e;cases e;rintro ⟨_,_,ha⟩;rw[ha _ (List.getElem_mem k)]at f;cases f)
 have Y:=qQ fun(j:Nat) (k:j<=l.length) (b:∀i (a:i<l.length),i<j->isD l[i]=true)=>(by
  have h1:=se (l:=l.take j) (fun x F=>by
   obtain⟨i,a⟩:=qd F;rw[List.getElem?_take]at a;by_cases v:i<j
   ·rw[qV v]at a;obtain⟨P,e⟩:=qO.1 a;rw[<-e];exact b i P v
   ·rw[qZ v]at a;cases a)
  rw[qT]at h1;have:10 ^ min j l.length<=10 ^ 6:=Nat.pow_le_pow_right (by decide) (by omega);omega:dv (l.take j)<=999999)
 obtain⟨K,y⟩:∃K,npK s=K:=⟨_,rfl⟩
 obtain⟨N,z⟩:∃N,npN s=N:=⟨_,rfl⟩
 obtain⟨o,C⟩:∃o,vq s=o:=⟨_,rfl⟩
 rw[y,z,C];have H:=qQ (qG y (qG z C));have U:=qQ (YU c);have V:=qQ A;clear h g y z C M A;go_enter func126,ntmps126;go_wp2_with fail;refine(U.out w).mono ?_;rintro _ _⟨rfl,rfl⟩;rw[V.out];go_wp2;go_loopw [3,16] (fun n i wr=>∃j:Nat,j<=6/\i=.int .i64 (j:Nat)/\n=.int .i64 (dv (l.take j):Nat)/\(∀i (a:i<l.length),i<j->isD l[i]=true)/\w=wr) (fun _ i _=>6-(intOf i).toNat)
 case atStart=>exact⟨0,qI _,rfl,rfl,fun i a h=>absurd h (by omega),rfl⟩
 case round =>
  obtain⟨j,k,rfl,rfl,b,rfl⟩:=hrel;have ae:=Y.out j (by omega) b;have G:=qQ b;clear b;by_cases P:j<6
  ·obtain⟨af,ag⟩:=T.out j (by omega);have ai:(1+(j:Int)).toNat=j+1:=(by omega);have ah:(1+(j:Int))<(s.size:Int):=(by omega);have ad:=(l[j]'(by omega)).toNat_lt;cases f:isD (l[j]'(by omega)) with
   | false =>
     have B:=Z.out j (by omega) f;obtain⟨p,q⟩:=pT B;obtain⟨r,t,u⟩:=H.out;rw[p]at r;rw[q]at t;rw[B]at u;subst r t u;simp only[isD,decide_eq_false_iff_not]at f;have O:(l[j]'(by omega)).toNat<48∨57<(l[j]'(by omega)).toNat:=(by omega);generalize l[j]'(by omega)=d at*;clear f p q B;by_cases ac:d.toNat<48
     ·have R:decide ((d.toNat:Int)<48)=true:=qB (by omega);clear O;go_wp2;go_ret3;exact⟨rfl,rfl⟩
     ·have R:decide ((d.toNat:Int)<48)=false:=qA (by omega);have v2:decide ((57:Int)<(d.toNat:Int))=true:=qB (by omega);clear O;go_wp2;go_ret3;exact⟨rfl,rfl⟩
   | true =>
     have X:=qQ (Le (l:=l) (j:=j) (by omega))
     have I:∀i (a:i<l.length),i<j+1->isD l[i]=true:=fun i a v=>by
      by_cases e:i=j
      ·subst e;exact f
      ·exact G.out i a (by omega)
     have W:=qQ I;simp only[isD,decide_eq_true_eq]at f;generalize l[j]'(by omega)=d at*;obtain⟨d1,d2⟩:=f;have R:decide ((d.toNat:Int)<48)=false:=qA (by omega);have v2:decide ((57:Int)<(d.toNat:Int))=false:=qA (by omega);generalize dv (l.take j)=m at*;clear I;go_wp2;go_roundw
     case rel=>exact⟨j+1,by omega,by go_num,by rw[X.out];go_num,W.out,trivial⟩
     case measure=>simp[intOf];omega
  ·obtain rfl:j=6:=by omega
   have b:∀x∈l,isD x=true:=fun x F=>by
    obtain⟨i,a⟩:=qd F;obtain⟨ab,e'⟩:=qO.1 a;rw[<-e'];exact G.out i ab (by omega)
   obtain⟨p,q,S⟩:=J.out b;obtain⟨r,t,u⟩:=H.out;rw[q]at r;rw[S]at t;rw[p]at u;have Q:l.take 6=l:=qp (by omega);rw[Q];subst r t u;clear p q S Q b;go_wp2;go_ret3;exact⟨rfl,rfl⟩
theorem Nq(s:Tw)(w:World)(m:s.size<=maxLen):
  Calls prog 126 #[s] w (X0 (.tuple #[.int .u8 (npK s:Nat),.int .i64 (npN s:Nat),.bool (vq s)]) w):=by
 by_cases b:s.size=7
 ·cases a:s.data.toList with
  | nil =>
    have:=pS s;rw[a,b]at this;cases this
  | cons c l =>
    cases d:isK c with
    | true=>exact N9 s w (by omega) b c l a d
    | false =>
      obtain⟨g,i⟩:=pT (si (s:=s) (fun j k e=>by
       rw[a]at e;cases e;rintro ⟨_,h,_⟩;rw[d]at h;cases h))
      have f:=si (s:=s) (fun j k e=>by
       rw[a]at e;cases e;rintro ⟨_,h,_⟩;rw[d]at h;cases h)
      rw[g,i,f];exact N8 s w (by omega) b c (VR a (by omega)) d
 ·have f:=si (s:=s) (fun j k e=>by
   rintro ⟨h,_,_⟩;have:=pS s;rw[e,qv]at this;omega)
  obtain⟨g,i⟩:=pT f;rw[g,i,f];exact N7 s w m b
theorem Nx: jw where
 stream:=NO
 chunk:=fun n w _=>N0 n w
 table:=fun n w _=>N3 n w
 zM:=fun n w _=>N5 n w
 parse:=fun s w a=>(Nq s w a).mono (by rintro e w'⟨rfl,rfl⟩;exact⟨rfl,qU _ _⟩)
theorem YW(b:Nat)(w:World)(a:b<18446744073709551616):
  Calls prog 262 #[.float .f64 b] w (X0 (.bool (ki b)) w):=by
 have d:(FloatKind.f64.format.order b b != some Ordering.eq)=ki b:=by rw[MP,MO a];cases ki b<;>rfl
 generalize ki b=n at*;clear a;go_enter func262,ntmps262;go_wp2;go_ret;exact⟨rfl,rfl⟩
theorem Nz{b:Nat}(a:b<18446744073709551616)(d:ki b=false)(k:Nat):
  (FloatKind.f64.format.order (hw k) b==some Ordering.lt||FloatKind.f64.format.order (hw k) b==some Ordering.eq)=decide ((hw k:Int)<=sr b):=by
 rw[MR (Hq k) a,d,Hz,Hx];rfl
theorem Nj(t:TypeId)(k:Nat)(a:k<17)(w:World):(binOp .quo t (.float .f64 (hw k)) (.float .f64 4611686018427387904)).run prog w=.ok (.float .f64 (hw (k+1))) w :=
 run_float_arith w .quo t .f64 _ _ _ (Hj k a)
theorem Nk(b:Nat)(w:World)(i:b<18446744073709551616)(m:ki b=false):
  Calls prog 227 #[.float .f64 b] w fun e w'=>∃n:Nat,e=.returned (.int .i64 n)/\Kd (sr b) n/\w=w':=by
 have t:=qQ (fun w=>YW b w i);have v:=qQ (Nz i m);rw[m]at t;clear i m;generalize sr b=s at*;go_enter func227,ntmps227;go_wp2_with fail;go_step3;go_wp2_with fail;refine X5 (t.out _) ?_;go_wp2;go_step3;go_wp2;go_loopw [3,4] (fun p h wr=>∃k:Nat,1<=k/\k<=16/\p=.int .i64 k/\h=.float .f64 (hw k)/\(∀j,1<=j->j<k->s<hw j)/\wr=w) (fun p _ _=>17-(intOf p).toNat)
 case atStart=>exact⟨1,by omega,by omega,rfl,by rw[Fo],fun j _ _=>by omega,rfl⟩
 case round =>
  obtain⟨k,A,B,rfl,rfl,g,rfl⟩:=hrel;by_cases C:k<16
  ·have I:(k:Int)<16:=(by omega);have q:=v.out k;have H:=qQ (Nj 24 k (by omega) wr);have f:=qQ g;clear g;obtain⟨d,l⟩:∃d,decide ((hw k:Int)<=s)=d:=⟨_,rfl⟩
   rw[l]at q;have r:=qQ l;clear l;have u:=H.out;cases d
   ·have G:=qQ (show hw (k+1)=hw (k+1) from rfl);obtain⟨x,a⟩:∃x,x=hw k:=⟨_,rfl⟩
    obtain⟨y,o⟩:∃y,y=hw (k+1):=⟨_,rfl⟩
    rw[<-a,<-o]at u;rw[<-a]at q ⊢;have X:=qQ a;have Y:=qQ o;clear a o H G;go_wp2;go_roundw
    case rel =>
     refine⟨k+1,by omega,by omega,by go_num,by rw[Y.out],fun j z F=>?_,by trivial⟩;rcases qh j k with c|c
     ·exact f.out j z c
     ·obtain rfl:j=k:=(by omega);have:=of_decide_eq_false r.out;omega
    case measure=>simp[intOf];omega
   ·obtain⟨x,a⟩:∃x,x=hw k:=⟨_,rfl⟩
    rw[<-a]at q ⊢;have X:=qQ a;clear u H a;go_wp2
    (try rw[Exit.noGoto_ret])
    go_ret;exact⟨k,rfl,⟨A,B,f.out,qY (of_decide_eq_true r.out)⟩,rfl⟩
  ·obtain rfl:k=16:=(by omega);have f:=qQ g;clear g;generalize hw 16=x at*;go_wp2
   (try rw[Exit.noGoto_ret])
   go_ret;exact⟨16,rfl,⟨by omega,by omega,f.out,qX rfl⟩,rfl⟩
theorem Nv(b:Nat)(w:World)(d:b<18446744073709551616)(f:ki b=true):
  Calls prog 227 #[.float .f64 b] w (X0 (.int .i64 4) w):=by
 have a:=qQ (fun w=>YW b w d);rw[f]at a;clear d f;go_enter func227,ntmps227;go_wp2_with fail;go_step3;go_wp2_with fail;refine X5 (a.out _) ?_;go_wp2
 (try rw[Exit.noGoto_ret])
 go_ret;exact⟨rfl,rfl⟩
theorem Ny(b:Nat)(w:World)(d:b<18446744073709551616):
  Calls prog 227 #[.float .f64 b] w fun e w'=>∃n:Nat,e=.returned (.int .i64 n)/\pI b n/\w=w':=by
 unfold pI;cases f:ki b
 ·refine(Nk b w d f).mono ?_;rintro e w'⟨n,a,h,hw⟩;exact⟨n,a,by rw[qZ (by decide)];exact h,hw⟩
 ·refine(Nv b w d f).mono ?_;rintro e w'⟨a,hw⟩;exact⟨4,a,by rw[qV rfl],hw⟩
theorem Nu(n:Int)(w:World):
  Calls prog 263 #[n,.int .i64 0,.int .i64 10000] w (X0 (.int .i64 (cN n:Nat)) w):=by
 have a:(n<0/\(cN n:Int)=0)∨(0<=n/\10000<n/\(cN n:Int)=10000)∨(0<=n/\n<=10000/\(cN n:Int)=n):=by unfold cN;split;omega;split<;>omega
 rcases a with⟨c1,e⟩|⟨c1,c2,e⟩|⟨c1,c2,e⟩
 all_goals
  rw[e];clear e;go_enter func263,ntmps263;go_wp2;go_ret;exact⟨rfl,rfl⟩
theorem Ng(n:Int)(w:World):
  Calls prog 263 #[n,.int .i64 1,.int .i64 16] w (X0 (.int .i64 (cK n:Nat)) w):=by
 have a:(n<1/\(cK n:Int)=1)∨(1<=n/\16<n/\(cK n:Int)=16)∨(1<=n/\n<=16/\(cK n:Int)=n):=by unfold cK;split;omega;split<;>omega
 rcases a with⟨c1,e⟩|⟨c1,c2,e⟩|⟨c1,c2,e⟩
 all_goals
  rw[e];clear e;go_enter func263,ntmps263;go_wp2;go_ret;exact⟨rfl,rfl⟩
theorem Nb(n k:Int)(w:World):
  Calls prog 228 #[n,k] w (X0 (.int .i64 (dQ n k:Nat)) w):=by
 have g:=qQ (fun w=>Nu n w);have i:=qQ (fun w=>Ng k w);have d:=Hk n;have f:=Kf k;unfold dQ;generalize cN n=a at*;generalize cK k=b at*;have l:=Hv d f;have m:(a:Int)*(b:Int)=((a*b:Nat):Int):=by simp
 have j:(480<a*b*3/2/\nx a b=(a*b*3/2+479)/480)∨(a*b*3/2<=480/\nx a b=1):=by unfold nx s9;split<;>omega
 generalize nx a b=r at*;generalize a*b=p at*;have o:(p:Int)<=160000:=by omega
 have q:(p:Int)*3<=480000:=by omega
 have s:(0:Int)<=(p:Int)*3:=by omega
 rcases j with⟨c1,rfl⟩|⟨c1,rfl⟩
 all_goals
  go_enter func228,ntmps228;go_wp2_with fail;refine X5 (g.out _) ?_;go_wp2_with fail;refine X5 (i.out _) ?_;go_wp2;go_ret;exact⟨mL (by omega),rfl⟩
def j9(p:Tw):Tw:=vO (bs (be 4 p.size)++p)++bs (be 4 p.size)
theorem tG(s:Tw):(vO s).size=s.size+4:=by unfold vO;rw[qx,kK,pE]
theorem gU(p:Tw):(j9 p).size=p.size+12:=by
 unfold j9;rw[qx,tG,qx,kK,jn];omega
def prS(p:Tw):Tw:=if 2000<p.size then ByteArray.empty else j9 p
def prE(p:Tw):Int:=if 2000<p.size then 3 else 0
def ky(s:Tw)(k:Nat):Nat:=jz (s.extract k (k+4))
def um(s:Tw)(k:Nat):Bool:=decide (k+12<=s.size/\ky s k<=2000/\k+ky s k+12<=s.size/\s.extract k (k+ky s k+12)=j9 (s.extract (k+4) (k+4+ky s k)))
def bP(s:Tw)(a:Int):Bool:=decide (0<=a)&&um s a.toNat
def dK(s:Tw)(a:Int):Tw:=if bP s a=true then s.extract (a.toNat+4) (a.toNat+4+ky s a.toNat) else ByteArray.empty
def yU(s:Tw)(a:Int):Nat:=if bP s a=true then a.toNat+ky s a.toNat+12 else 0
theorem lz(s:Tw)(k:Nat):bP s (k:Nat)=um s k:=by simp[bP]
theorem YA{s:Tw}{a:Int}(h:bP s a=false):dK s a=ByteArray.empty/\yU s a=0:=by simp[dK,yU,h]
theorem ZY{s:Tw}{k:Nat}(h:um s k=true):bP s (k:Nat)=true/\dK s (k:Nat)=s.extract (k+4) (k+4+ky s k)/\yU s (k:Nat)=k+ky s k+12:=by
 have e:bP s (k:Nat)=true:=by rw[lz];exact h
 simp[dK,yU,e]
theorem py{s:Tw}{k:Nat}:um s k=true↔(k+12<=s.size/\ky s k<=2000/\k+ky s k+12<=s.size/\s.extract k (k+ky s k+12)=j9 (s.extract (k+4) (k+4+ky s k))):=by simp[um]
theorem oV{s:Tw}{k:Nat}(h:¬(k+12<=s.size/\ky s k<=2000/\k+ky s k+12<=s.size/\s.extract k (k+ky s k+12)=j9 (s.extract (k+4) (k+4+ky s k)))):um s k=false:=by
 cases e:um s k with
 | false=>rfl
 | true=>exact absurd (py.1 e) h
theorem Nc(s:Tw)(a:Int):yU s a<=s.size:=by
 unfold yU;by_cases h:bP s a=true
 ·rw[qV h];have b:um s a.toNat=true:=by simp[bP]at h;exact h.2
  have:=py.1 b;omega
 ·rw[qZ h];exact qI _
theorem ZU{s:Tw}{k:Nat}(h:um s k=true):k+12<=yU s (k:Nat)/\yU s (k:Nat)<=s.size:=by
 obtain⟨_,_,e⟩:=ZY h;have:=py.1 h;rw[e];omega
def whL(s:Tw):Nat->Nat->List Int
 | 0,_=>[]
 | n+1,k=>if um s k=true then(k:Int)::whL s n (yU s (k:Nat)) else []
def whE(s:Tw):Nat->Nat->Nat
 | 0,k=>k
 | n+1,k=>if um s k=true then whE s n (yU s (k:Nat)) else k
def wlL(s:Tw)(a:Int):List Int:=if 0<=a/\a<=s.size then whL s (s.size+1) a.toNat else []
def wlE(s:Tw)(a:Int):Nat:=if 0<=a/\a<=s.size then whE s (s.size+1) a.toNat else 0
theorem YB(s:Tw):∀(n m k:Nat),s.size<k+n->s.size<k+m->k<=s.size->whL s n k=whL s m k/\whE s n k=whE s m k
 | 0,m,k,h1,h2,hk=>by omega
 | n+1,0,k,h1,h2,hk=>by omega
 | n+1,m+1,k,h1,h2,hk=>by
   unfold whL whE;by_cases h:um s k=true
   ·have hl:=ZU h;obtain⟨a,b⟩:=YB s n m (yU s (k:Nat)) (by omega) (by omega) (by omega);rw[qV h,qV h,qV h,qV h,a,b];exact⟨rfl,rfl⟩
   ·rw[qZ h,qZ h,qZ h,qZ h];exact⟨rfl,rfl⟩
theorem YC{s:Tw}{k:Nat}(d:k<=s.size)(h:um s k=true):
  whL s (s.size+1) k=(k:Int)::whL s (s.size+1) (yU s (k:Nat))/\whE s (s.size+1) k=whE s (s.size+1) (yU s (k:Nat)):=by
 have f:=ZU h;obtain⟨a,b⟩:=YB s s.size (s.size+1) (yU s (k:Nat)) (by omega) (by omega) (by omega);constructor
 ·rw[whL,qV h,a]
 ·rw[whE,qV h,b]
theorem YD{s:Tw}{k:Nat}(h:um s k=false):whL s (s.size+1) k=[]/\whE s (s.size+1) k=k:=by
 constructor
 ·rw[whL,qZ (by rw[h];decide)]
 ·rw[whE,qZ (by rw[h];decide)]
def pc(w:World)(e:Ending)(w':World):Prop:=e=.returned (.tuple #[.string ByteArray.empty,.int .i64 0,.bool false])/\Below w.1.size w w'
theorem YE{a b:Tw}(h:a=b):(a.toList==b.toList)=true:=by rw[h,beq_iff_eq]
theorem Nd{a b:Tw}(h:¬a=b):(a.toList != b.toList)=true:=by
 rw[bne_iff_ne];intro x;rw[Lib.toList_data,Lib.toList_data]at x;exact h (qi (Array.toList_inj.1 x))
def mr(s:Tw)(a:Int)(w:World)(e:Ending)(w':World):Prop:=e=.returned (.tuple #[.string (dK s a),.int .i64 (yU s a:Nat),.bool (bP s a)])/\Below w.1.size w w'
theorem pd{s:Tw}{a:Int}{w w':World}{e:Ending}(h:bP s a=false)(f:pc w e w'):mr s a w e w':=by
 obtain⟨b,d⟩:=YA h;unfold mr;rw[b,d,h];exact f
def tW(n:Int):Value:=.int .i64 n
theorem kF.xz{w:World}{base:Nat}{e:TypeId}{v:Value}{l:List Int}(h:w.ownsRow base e 1 v l.length (l.map tW)):kF w v l:=by
 have b:=h;rcases h.2 with⟨a,j⟩|⟨g,f,o,a,p,k,n,m,r,s⟩
 ·exact qX ⟨xK.1 j,none,0,a⟩
 ·refine qY ⟨g,0,f,a,n,m,(ql.1 k).1,fun i x d=>?_⟩;rw[a]at b;have q:i<l.length:=(qO.1 d).1;rw[qa,b.cellAt i (by omega),qu,d];rfl
theorem Nf{w:World}{base n size:Nat}{e:TypeId}{v:Value}{xs:List Value}(h:w.ownsRow base e size v n xs):∀k,v.ownBlock=some k->base<=k:=by
 intro k a;rcases h.2 with⟨rfl,_⟩|⟨g,d,f,rfl,b,_⟩
 ·cases a
 ·cases a;exact b
def oY(s:Tw)(a:Int)(w:World)(e:Ending)(w':World):Prop:=∃u,e=.returned (.tuple #[u,.int .i64 (wlE s a:Nat)])/\kF w' u (wlL s a)/\Below w.1.size w w'
theorem fc(a x b:Tw){i j:Nat}(hi:i=a.size)(f:j=a.size+x.size):(a++x++b).extract i j=x:=by
 subst hi f;rw[ByteArray.append_assoc];apply qi;apply Array.toList_inj.1;have d:a.data.toList.length=a.size:=Array.length_toList;have g:x.data.toList.length=x.size:=Array.length_toList;rw[ByteArray.data_extract,Array.toList_extract,List.extract];simp only[ByteArray.data_append,Array.toList_append];rw[List.drop_left' d,Nat.add_sub_cancel_left,List.take_left' g]
theorem YF(p:Tw):j9 p=bs (be 4 p.size)++(p++(bs (bJ (bs (be 4 p.size)++p).data.toList)++bs (be 4 p.size))):=by
 unfold j9 vO;simp only[ByteArray.append_assoc]
theorem Nh(n:Nat)(h:n<4294967296):jz (bs (be 4 n))=n:=by
 unfold jz;have:(bs (be 4 n)).data.toList=be 4 n:=by simp[bs]
 rw[this,qp (by rw[jn];omega),lO];exact Nat.mod_eq_of_lt (by omega)
theorem YH(a p b:Tw)(d:p.size<=2000):ky (a++j9 p++b) a.size=p.size:=by
 unfold ky
 have e:a++j9 p++b=a++bs (be 4 p.size)++((p++(bs (bJ (bs (be 4 p.size)++p).data.toList)++bs (be 4 p.size)))++b):=by
  rw[YF];simp only[ByteArray.append_assoc]
 rw[e,fc _ _ _ rfl (by rw[kK,jn]),Nh _ (by omega)]
theorem Nl(a p b:Tw):(a++j9 p++b).extract (a.size+4) (a.size+4+p.size)=p:=by
 have e:a++j9 p++b=(a++bs (be 4 p.size))++p++((bs (bJ (bs (be 4 p.size)++p).data.toList)++bs (be 4 p.size))++b):=by
  rw[YF];simp only[ByteArray.append_assoc]
 rw[e];exact fc _ _ _ (by rw[qx,kK,jn]) (by rw[qx,kK,jn])
theorem ZG(a p b:Tw)(i:p.size<=2000):um (a++j9 p++b) a.size=true/\dK (a++j9 p++b) (a.size:Nat)=p/\yU (a++j9 p++b) (a.size:Nat)=a.size+(p.size+12):=by
 have d:=YH a p b i;have f:=Nl a p b;have l:(a++j9 p++b).size=a.size+(p.size+12)+b.size:=by rw[qx,qx,gU]
 have g:um (a++j9 p++b) a.size=true:=by
  rw[py,d,f];refine⟨by omega,i,by omega, ?_⟩;exact fc _ _ _ rfl (by rw[gU];omega)
 obtain⟨_,j,k⟩:=ZY g;refine⟨g, ?_, ?_⟩
 ·rw[j,d,f]
 ·rw[k,d];omega
def hdT(n:Nat):Tw:=⟨#[99,104,110,107]⟩++bs (be 4 n)
def hdS(n:Int):Tw:=if 0<=n/\n<=199 then vO (hdT n.toNat) else ByteArray.empty
theorem ZW{n:Int}(h:¬(0<=n/\n<=199)):hdS n=ByteArray.empty:=by unfold hdS;rw[qZ h]
theorem YI{n:Nat}(h:n<=199):hdS (n:Nat)=vO (hdT n):=by unfold hdS;rw[qV (by omega),qm]
theorem YL(n:Nat):(hdT n).size=8:=by unfold hdT;rw[qx,kK,jn];rfl
theorem ma{n:Nat}(h:n<=199):(hdS (n:Nat)).size=12:=by rw[YI h,tG,YL]
def scK(s:Tw)(n:Int):Nat:=if ¬(0<=n/\n<=199) then 0 else if ¬s.extract 0 (min s.size 12)=(hdS n).extract 0 (min s.size 12) then 0 else if s.size<12 then 1 else 2
def scL(s:Tw)(n:Int):List Int:=if scK s n=2 then wlL s 12 else []
def scE(s:Tw)(n:Int):Nat:=if scK s n=2 then wlE s 12 else 0
def cV(s:Tw)(n:Int):Bool:=decide (¬scK s n=0)
theorem Nm{s:Tw}{n:Int}(h:scK s n=0):scL s n=[]/\scE s n=0/\cV s n=false:=by simp[scL,scE,cV,h]
theorem Nn{s:Tw}{n:Int}(h:scK s n=1):scL s n=[]/\scE s n=0/\cV s n=true:=by simp[scL,scE,cV,h]
theorem YM{s:Tw}{n:Int}(h:scK s n=2):scL s n=wlL s 12/\scE s n=wlE s 12/\cV s n=true:=by simp[scL,scE,cV,h]
theorem Np{s:Tw}{n:Int}(h:¬(0<=n/\n<=199)):scK s n=0:=by unfold scK;rw[qV h]
theorem Nr{s:Tw}{n:Int}(h:0<=n/\n<=199)(a:¬s.extract 0 (min s.size 12)=(hdS n).extract 0 (min s.size 12)):scK s n=0:=by unfold scK;rw[qZ (by omega),qV a]
theorem Ns{s:Tw}{n:Int}(h:0<=n/\n<=199)(a:s.extract 0 (min s.size 12)=(hdS n).extract 0 (min s.size 12))(b:s.size<12):scK s n=1:=by unfold scK;rw[qZ (by omega),qZ (by simp[a]),qV b]
theorem YN{s:Tw}{n:Int}(h:0<=n/\n<=199)(a:s.extract 0 (min s.size 12)=(hdS n).extract 0 (min s.size 12))(b:¬s.size<12):scK s n=2:=by unfold scK;rw[qZ (by omega),qZ (by simp[a]),qZ b]
def ftS(size:Int)(p:Tw):Bool:=decide (p.size<=2000/\0<=size/\size<=4096/\size+(p.size:Int)+12<=4096)
def oU(s:Tw)(n:Int)(w:World)(e:Ending)(w':World):Prop:=∃u,e=.returned (.tuple #[u,.int .i64 (scE s n:Nat),.bool (cV s n)])/\kF w' u (scL s n)/\Below w.1.size w w'
theorem ZA{H:Tw}(a:H.size=12):¬H.toList=[]/\(H.toList==[])=false:=by
 have:¬H.toList=[]:=fun e=>by
  have h:H=ByteArray.empty:=qi (Array.toList_inj.1 (by rw[<-Lib.toList_data,e];rfl));rw[h]at a;cases a
 exact⟨this,by rw[qg];exact this⟩
def pf(w:World)(e:Ending)(w':World):Prop:=∃u,e=.returned (.tuple #[u,.int .i64 0,.bool false])/\kF w' u []/\Below w.1.size w w'
def ZB(w:World)(e:Ending)(w':World):Prop:=∃u,e=.returned (.tuple #[u,.int .i64 0,.bool true])/\kF w' u []/\Below w.1.size w w'
end
section
structure jq where
 xB:Nat
 chunks:Nat
 endp:Nat
 sure:Nat
abbrev nmC(n:Nat):Tw:=nmS 99 (n:Nat)
def jr: Tw:=⟨#[110,101,119]⟩
def stR(r:Nat->Nat):Nat->Nat->Nat × Nat
 | 0,k=>(0,k)
 | n+1,k=>if r k=0 then stR r n (k+1) else(r k,k+1)
def yG(D:jD)(L:jq):Nat:=if D.down then 61 else if D.xB=L.xB then 0 else 61
def rdC(D:jD)(n:Tw):Tw × Nat × jD:=if (jk D n).2=0 then vE D n 0 ((jk D n).1:Nat) else(ByteArray.empty,(jk D n).2,D)
def vH(D:jD)(L:jq):Nat × jD × jq :=
 if L.chunks=0 then(0,D, { L with sure:=L.endp }) else
 if (kZ D (nmC (L.chunks-1))).1=0 then(0,(kZ D (nmC (L.chunks-1))).2, { L with sure:=L.endp }) else((kZ D (nmC (L.chunks-1))).1,(kZ D (nmC (L.chunks-1))).2,L)
def uG(D:jD)(L:jq)(p:Tw):Nat × Nat × Nat :=
 if L.chunks=0 then(0,12,0) else
 if (jk D (nmC (L.chunks-1))).2=0 then(if ftS ((jk D (nmC (L.chunks-1))).1:Nat) p=true then(L.chunks-1,(jk D (nmC (L.chunks-1))).1,0) else(L.chunks,12,0))
 else(0,0,(jk D (nmC (L.chunks-1))).2)
def gG(D:jD)(s:Tw):Bool:=decide (6000<=(D.cap:Int)-(jM D.l:Nat)-(s.size:Nat))
def yo(a:Nat × jD × jq)(f:jD->jq->Nat × jD × jq):Nat × jD × jq:=if a.1=0 then f a.2.1 a.2.2 else a
def onD(f:jD->Nat × jD)(D:jD)(L:jq):Nat × jD × jq:=((f D).1,(f D).2,L)
def cY(D:jD)(L:jq)(r:Tw):Nat × jD × jq :=
 if 200<=L.chunks∨gG D (hdS (L.chunks:Nat)++r)=false then(60,D,L) else
 yo (yo (vH D L) (onD fun E=>jx E (nmC L.chunks))) (onD fun E=>jc E (nmC L.chunks) (hdS (L.chunks:Nat)++r))
def uS(D:jD)(L:jq)(r:Tw):Nat × jD:=if gG D r=false then(60,D) else jc D (nmC (L.chunks-1)) r
def uT(D:jD)(L:jq)(p:Tw):Nat × Nat × jD × jq :=
 if yG D L≠0 then(0,yG D L,D,L) else
 if 2000<p.size then(0,3,D,L) else
 if (uG D L p).2.2≠0 then(0,(uG D L p).2.2,D,L) else
 let n:=(uG D L p).1
 let a:=(uG D L p).2.1
 let r:=if n=L.chunks then cY D L (j9 p) else onD (fun E=>uS E L (j9 p)) D L
 if r.1≠0 then(0,r.1,r.2.1,r.2.2) else(4096*n+a,0,r.2.1, { r.2.2 with chunks:=n+1,endp:=4096*n+a+(j9 p).size })
def yJ(D:jD)(L:jq):Nat × jD × jq:=if yG D L≠0 then(yG D L,D,L) else vH D L
def tA(D:jD)(n:Tw)(a:Nat):Tw × Nat × jD :=
 if (jk D n).2≠0 then(ByteArray.empty,(jk D n).2,D) else
 if (jk D n).1<a+12 then(ByteArray.empty,4,D) else
 let b:=vE D n (a:Nat) 4
 if b.2.1≠0 then(ByteArray.empty,b.2.1,b.2.2) else
 if 2000<jz b.1∨(jk D n).1<a+12+jz b.1 then(ByteArray.empty,4,b.2.2) else
 let c:=vE b.2.2 n (a:Nat) ((jz b.1+12:Nat):Int)
 if c.2.1≠0 then(ByteArray.empty,c.2.1,c.2.2) else
 if bP c.1 0=true then(dK c.1 0,0,c.2.2) else(ByteArray.empty,4,c.2.2)
def lj(D:jD)(L:jq)(pos:Int):Tw × Nat × jD :=
 if yG D L≠0 then(ByteArray.empty,yG D L,D) else
 if pos<0∨(L.chunks:Int)<=pos/4096∨pos%4096<12 then(ByteArray.empty,4,D) else tA D (nmC (pos/4096).toNat) (pos%4096).toNat
def yW(D:jD):Nat × jD:=if (jg D jr).1=4 then(0,(jg D jr).2) else jg D jr
def isC(s:Tw):Bool:=vq s&&npK s==99
def yz: List Tw->Nat->Nat × Nat
 | [],c=>(0,c)
 | s::r,c=>if isC s=true then(if npN s≠c∨200<=npN s then(63,c) else yz r (c+1)) else yz r c
def ur(D:jD)(L:jq):Nat × jD × jq:=((yz (D.l.map jI.name) L.chunks).1,D, { L with chunks:=(yz (D.l.map jI.name) L.chunks).2 })
def fU(a:Nat × jD)(f:jD->Nat × jD):Nat × jD:=if a.1=0 then f a.2 else a
def lk(D:jD)(n s:Tw):Nat × jD:=fU (fU (fU (jx D jr) fun E=>jc E jr s) fun E=>kZ E jr) fun E=>vI E jr n
def ff(D:jD)(L:jq)(n:Nat)(s:Tw)(e:Nat):Nat × jD × jq :=
 if s.size<12 then((jg D (nmC n)).1,(jg D (nmC n)).2, { L with chunks:=n }) else
 if e<s.size then onD (fun E=>lk E (nmC n) (s.extract 0 e)) D { L with endp:=4096*n+e } else onD (fun E=>kZ E (nmC n)) D { L with endp:=4096*n+e }
def uq: Nat->Nat->jD->jq->Nat × jD × jq
 | 0,_,D,L=>(0,D,L)
 | k+1,n,D,L =>
   if (rdC D (nmC n)).2.1≠0 then((rdC D (nmC n)).2.1,(rdC D (nmC n)).2.2,L) else
   if cV (rdC D (nmC n)).1 (n:Nat)=false then(63,(rdC D (nmC n)).2.2,L) else
   if k=0 then ff (rdC D (nmC n)).2.2 L n (rdC D (nmC n)).1 (scE (rdC D (nmC n)).1 (n:Nat)) else
   if (rdC D (nmC n)).1.size<12∨scE (rdC D (nmC n)).1 (n:Nat)<(rdC D (nmC n)).1.size then(63,(rdC D (nmC n)).2.2,L) else
   uq k (n+1) (rdC D (nmC n)).2.2 { L with endp:=4096*n+scE (rdC D (nmC n)).1 (n:Nat) }
def fG(D:jD)(L:jq):Nat × jD × jq:=uq L.chunks 0 D L
def gz(D:jD):Nat × jD × jq:=yo (yo (onD yW D ⟨D.xB,0,0,0⟩) ur) fG
end
section
open Go.RowKit
structure Ctx where
 w0:World
 F0:List Nat
 base:Nat
 m:Value
 G:List Nat
 wG:World
def gW(m:Value)(gd:Nat)(L:jq):Array Value:=#[m,ptr gd,.int .i64 (L.xB:Nat),.int .i64 (L.chunks:Nat),.int .i64 (L.endp:Nat),.int .i64 (L.sure:Nat)]
def TSt(At:jR)(c:Ctx)(gl gd:Nat)(L:jq)(D:jD)(w:World):Prop :=
 ∃F,At w c.base gd F D/\jF w gl 130 (gW c.m gd L)/\gl ∉ F/\(∀x∈F,x∈c.F0∨c.w0.1.size<=x)/\jH (gl::c.F0) c.w0 w/\c.wG.1.size<=w.1.size /\
  ∀b∈c.G,c.w0.1.size<=b/\b<c.wG.1.size/\b ∉ F/\b≠gl/\w.heap[b]? = c.wG.heap[b]?
def vY(At:jR)(c:Ctx)(gl gd:Nat)(v:Value)(L:jq)(D:jD)(e:Ending)(w:World):Prop:=e=.returned v/\TSt At c gl gd L D w
section
variable {At:jR}{c:Ctx}{gl gd:Nat}{L L':jq}{D D':jD}{w w':World}
theorem TSt.xC(api:jS At)(h:TSt At c gl gd L D w)(a:jH [] w w'):TSt At c gl gd L D w':=by
 obtain⟨F,d,f,g,i,j,k,l⟩:=h;refine⟨F,api.xC d a (fun _ _=>by simp),f.xC a (by simp),g,i,j.trans a (fun x n=>by cases n),qR k a.size,fun b m=>?_⟩;obtain⟨o,p,q,r,s⟩:=l b m;exact⟨o,p,q,r,(a.block b (by omega) (by simp)).trans s⟩
theorem TSt.below(api:jS At)(h:TSt At c gl gd L D w)(a:Below w.1.size w w'):TSt At c gl gd L D w':=h.xC api (jH.xA a)
theorem TSt.drew(api:jS At)(h:TSt At c gl gd L D w):TSt At c gl gd L D w.drew:=h.xC api (jH.refl [] w).drew
theorem TSt.drewN(api:jS At)(h:TSt At c gl gd L D w)(n:Nat):TSt At c gl gd L D (w.drewN n):=h.xC api ((jH.refl [] w).drewN n)
theorem TSt.cells(h:TSt At c gl gd L D w):w.cell? ⟨gl,0,none⟩=some c.m/\w.cell? ⟨gl,1,none⟩=some (ptr gd)/\w.cell? ⟨gl,2,none⟩=some (.int .i64 (L.xB:Nat))/\w.cell? ⟨gl,3,none⟩=some (.int .i64 (L.chunks:Nat)) /\
  w.cell? ⟨gl,4,none⟩=some (.int .i64 (L.endp:Nat))/\w.cell? ⟨gl,5,none⟩=some (.int .i64 (L.sure:Nat)):=by
 obtain⟨F,b,a,_⟩:=h;exact⟨a.cell 0,a.cell 1,a.cell 2,a.cell 3,a.cell 4,a.cell 5⟩
theorem TSt.frozen(h:TSt At c gl gd L D w)(i:Nat):w.frozen? ⟨gl,i,none⟩=false:=by
 obtain⟨F,b,a,_⟩:=h;exact a.frozen i
theorem TSt.xD(api:jS At)(h:TSt At c gl gd L D w){f:FuncId}{args:Array Value}{v:Value}(z:∀F,At w c.base gd F D->Calls prog f args w (yY At c.base gd F w v D')):Calls prog f args w (vY At c gl gd v L D'):=by
 obtain⟨F,s,j,l,m,n,t,u⟩:=h;refine(z F s).mono ?_;rintro e w'⟨p,q,r,d,a⟩;refine⟨q,p,r,j.xC a l,fun g=>?_,fun x i=>?_,n.trans a (fun x i=>?_),qR t a.size,fun b y=>?_⟩
 ·rcases d gl g with k|k
  ·exact l k
  ·have:=j.lt;omega
 ·rcases d x i with k|k
  ·exact m x k
  ·exact qY (by have:=n.size;omega)
 ·rcases m x i with k|k
  ·exact qX (qF _ k)
  ·exact qY k
 ·obtain⟨A,B,o,C,G⟩:=u b y;refine⟨A,B,fun g=>?_,C,(a.block b (by omega) o).trans G⟩;rcases d b g with k|k
  ·exact o k
  ·omega
theorem TSt.same(h:TSt At c gl gd L D w){P:Program}{f:FuncId}{args:Array Value}{v:Value}(a:Calls P f args w fun e w'=>e=.returned v/\w=w'):Calls P f args w (vY At c gl gd v L D):=a.mono (by
 rintro e w'⟨rfl,rfl⟩;exact⟨rfl,h⟩)
theorem TSt.put(api:jS At)(h:TSt At c gl gd L D w)(i:Nat)(v:Value)(t:(gW c.m gd L).setIfInBounds i v=gW c.m gd L'):TSt At c gl gd L' D (w.setCell ⟨gl,i,none⟩ v):=by
 obtain⟨F,j,k,f,l,n,o,q⟩:=h;have a:jH [gl] w (w.setCell ⟨gl,i,none⟩ v):=(jH.refl [gl] w).setCell (p:=⟨gl,i,none⟩) (qX (qH.2 rfl)) _;refine⟨F,api.xC j a (fun x d s=>f (by rw[<-qH.1 s];exact d)),by rw[<-t];exact k.put i v,f,l,n.trans a (fun x d=>qX (by rw[qH.1 d];exact qC)),qR o a.size,fun b r=>?_⟩;obtain⟨u,y,z,g,A⟩:=q b r;exact⟨u,y,z,g,(a.block b (by omega) (by simpa using g)).trans A⟩
theorem TSt.xw(api:jS At)(h:TSt At c gl gd L D w)(k:Nat):TSt At c gl gd { L with chunks:=k } D (w.setCell ⟨gl,3,none⟩ (.int .i64 (k:Nat))):=h.put api 3 _ rfl
theorem TSt.xm(api:jS At)(h:TSt At c gl gd L D w)(k:Nat):TSt At c gl gd { L with endp:=k } D (w.setCell ⟨gl,4,none⟩ (.int .i64 (k:Nat))):=h.put api 4 _ rfl
theorem TSt.zC(api:jS At)(h:TSt At c gl gd L D w)(k:Nat):TSt At c gl gd { L with sure:=k } D (w.setCell ⟨gl,5,none⟩ (.int .i64 (k:Nat))):=h.put api 5 _ rfl
theorem TSt.xc(h:TSt At c gl gd L D w){b:Nat}(d:b∈c.G):w.heap[b]? = c.wG.heap[b]? := by
 obtain⟨F,f,g,i,j,k,l,a⟩:=h;exact(a b d).2.2.2.2
theorem TSt.own(api:jS At)(h:TSt At c gl gd L D w){f:List Nat}(i:jH c.G w w')(r:∀b∈f,b∈c.G∨w.1.size<=b)(o:∀b∈f,b<w'.1.size):TSt At { c with G:=f,wG:=w' } gl gd L D w':=by
 obtain⟨F,l,m,p,q,n,y,d⟩:=h;have hF:∀x∈F,x ∉ c.G:=fun x j a=>(d x a).2.2.1 j
 have s:gl ∉ c.G:=fun a=>(d gl a).2.2.2.1 rfl
 refine⟨F,api.xC l i hF,m.xC i s,p,q,n.trans i (fun x j=>qY (d x j).1),qK _,fun b g=>?_⟩;rcases r b g with k|k
 ·obtain⟨t,z,u,v,_⟩:=d b k;exact⟨t,o b g,u,v,rfl⟩
 ·exact⟨qR n.size k,o b g,fun a=>(by have:=(api.low l b a).2;omega),fun e=>(by have:=m.lt;omega),rfl⟩
theorem TSt.back{a:Ctx}(h:TSt At a gl gd L D w)(d:a.w0=c.w0)(k:a.F0=c.F0)(l:a.base=c.base)(n:a.m=c.m)(t:c.wG.1.size<=a.wG.1.size)(r:∀b∈c.G,b∈a.G/\b<c.wG.1.size/\a.wG.heap[b]? = c.wG.heap[b]?):TSt At c gl gd L D w:=by
 obtain⟨F,f,g,o,i,j,p,q⟩:=h;rw[l]at f;rw[n]at g;rw[d,k]at i j;refine⟨F,f,g,o,i,j,qR t p,fun b s=>?_⟩;obtain⟨A,B,C⟩:=r b s;obtain⟨u,H,v,y,z⟩:=q b A;exact⟨by rw[<-d];exact u,B,v,y,z.trans C⟩
end
theorem YO: (prog.info? 130).map (·.size)=some 6:=by kernel_rfl
theorem Nt(d:Nat)(p:Addr)(w:World):(Op.equalIn (d+1) 70 (.pointer (some p)) (.pointer (some p))).run prog w=.ok true w:=by
 cases a:prog.info? 130 with
 | none=>have:=YO;rw[a]at this;cases this
 | some i =>
   have b:i.size=6:=(by have:=YO;rw[a]at this;simpa using this);simp[Op.equalIn,run_underlying Tryz.underlying70,sizeOf,typeInfo,a,sameAddr]
theorem Na(p:Addr)(w:World):(binOp .neq 70 (.pointer (some p)) (.pointer (some p))).run prog w=.ok (.bool false) w:=by
 have a:(Op.equal 70 (.pointer (some p)) (.pointer (some p))).run prog w=.ok true w:=Nt 9999 p w;simp only[binOp];simp[a]
theorem YP{w:World}{gl:Nat}(h:w.cell? ⟨gl,0,none⟩=some (ptr gl)):Calls prog 114 #[ptr gl] w (X0 (.bool false) w):=by
 have a:=Na ⟨gl,0,none⟩;go_enter func114,ntmps114;go_wp2;go_ret;exact⟨rfl,rfl⟩
theorem ZC(n:Nat)(w:World)(d:n<=1000000):Calls prog 93 #[n] w (X0 (.int .i64 ((n:Nat)*4096:Int)) w):=by
 have b:(n:Int)<=1000000:=by omega
 have a:(0:Int)<=n:=by omega
 go_enter func93,ntmps93;go_wp2;go_ret;exact⟨rfl,rfl⟩
section
variable {At:jR}(api:jS At){c:Ctx}{gl gd:Nat}{L L':jq}{D D':jD}{w w':World}
include api
theorem oG(i:c.m=ptr gl)(h:TSt At c gl gd L D w):Calls prog 90 #[ptr gl] w (vY At c gl gd (err (yG D L)) L D):=by
 obtain⟨c0,c1,c2,l,n,o⟩:=h.cells;rw[i]at c0;have j:=qQ h;have p:=qQ (YP c0);obtain⟨F,a,-⟩:=h;have g:=qQ (api.jA a);have f:=qQ (fun k=>api.zi (api.xC a ((jH.refl [] w).drewN k) (fun _ _=>by simp)));unfold yG;cases b:D.down
 ·simp only[Bool.false_eq_true,if_false];rw[b]at g;by_cases d:D.xB=L.xB
  ·rw[qV d];have f:=qQ (fun k=>d ▸ f.out k);have r:((L.xB:Int) != (L.xB:Int))=false:=(by simp);generalize L.xB=q at*;clear a b d l n o i;go_enter func90,ntmps90;go_wp2_with fail;refine X5 p.out ?_;go_wp2_with fail;refine X5 g.out ?_;go_wp2_with fail;go_quiet ((go_at_call 75;exact Calls.quiet_of_same ((f.out _).mono fun _ _ h=>⟨h.1,h.2.symm⟩)));go_wp2;go_ret;exact⟨rfl,j.out.drewN api _⟩
  ·rw[qZ d];have r:((D.xB:Int) != (L.xB:Int))=true:=(by simp;omega);have s:¬(D.xB:Int)=(L.xB:Int):=(by omega);generalize L.xB=q at*;generalize D.xB=y at*;clear a b d l n o i;go_enter func90,ntmps90;go_wp2_with fail;refine X5 p.out ?_;go_wp2_with fail;refine X5 g.out ?_;go_wp2_with fail;go_quiet ((go_at_call 75;exact Calls.quiet_of_same ((f.out _).mono fun _ _ h=>⟨h.1,h.2.symm⟩)));go_wp2;go_ret;exact⟨rfl,j.out.drewN api _⟩
 ·simp only[if_true];rw[b]at g;clear a b l n o i f;go_enter func90,ntmps90;go_wp2_with fail;refine X5 p.out ?_;go_wp2_with fail;refine X5 g.out ?_;go_wp2;go_ret;exact⟨rfl,j.out⟩
end
theorem Ni{w:World}{gl:Nat}{v:Int}(a:w.cell? ⟨gl,0,none⟩=some (ptr gl))(h:w.cell? ⟨gl,4,none⟩=some (.int .i64 v)):Calls prog 66 #[ptr gl] w (X0 (.int .i64 v) w):=by
 have b:=qQ (YP a);clear a;go_enter func66,ntmps66;go_wp2_with fail;refine X5 b.out ?_;go_wp2;go_ret;exact⟨rfl,rfl⟩
end
section
open Go.RowKit
structure vR: Prop where
 head:∀(n:Int) (w:World),(Lit.int .i64 n).wf=true->Calls prog 152 #[n] w (X3 (.string (hdS n)) w)
 scan:∀(s:Tw) (n:Int) (w:World),s.size<=1100000->(Lit.int .i64 n).wf=true->Calls prog 92 #[s,n] w (oU s n w)
 fits:∀(size:Int) (p:Tw) (w:World),p.size<=maxLen->(Lit.int .i64 size).wf=true->Calls prog 198 #[size,p] w (X0 (.bool (ftS size p)) w)
 put:∀(p:Tw) (w:World),p.size<=maxLen->Calls prog 145 #[p] w (X3 (.tuple #[.string (prS p),.int .i64 (prE p)]) w)
theorem kF.ze{w:World}{v:Value}{l:List Int}(h:kF w v l):∃A c,v=.slice A l.length c:=by
 obtain⟨A,off,a,b,_⟩:=h.cell;exact⟨A,a,b⟩
end
section
theorem No{D:jD}{n:Tw}{f:jI}(b:D.down=false)(h:jN D.l n=some f):rdC D n=(f.data,0, { D with count:=D.count+1 }):=by
 unfold rdC;rw[mj b h,qV rfl];have:=pP (a:=0) (k:=f.data.size) b h (by omega);rw[qa]at this
 have e:f.data.extract 0 f.data.size=f.data:=by
  apply qi;rw[ByteArray.data_extract];exact Array.extract_size
 rw[e]at this;exact this
end
section
open Go.RowKit
theorem Nw(n:Nat)(w:World)(a:n<18446744073709551616):
  Calls prog 142 #[.int .u64 (n:Nat),.int .i64 2] w fun e w'=>e=.returned (.string (bs (be 2 n)))/\Below w.1.size w w' :=
 bK n 2 w (by omega) (by omega) a
theorem YR(s:Tw)(h:s.size<=65535)(l:List UInt8)(a:l.length=2)(w:World):(Op.stringOp .add (bs l) s).run prog w=.ok (.string (bs l++s)) w :=
 run_string_add_sum (P:=prog) (w:=w) (bs l) s (by rw[kK,a];omega)
theorem YS(s:Tw)(w:World)(h:s.size<=65535):
  Calls prog 141 #[s] w (X3 (.string (bs (be 2 s.size)++s)) w):=by
 have a:=qQ (Nw s.size w (by omega));have b:=YR s h (be 2 s.size) (jn _ _);go_enter func141,ntmps141;go_wp2_with (go_at_call 142;refine KG a.out fun w' d=>?_);go_ret;exact⟨rfl,‹Below _ _ _›⟩
end
end Go.Proofs.YthejglbnkmimjaaGreat

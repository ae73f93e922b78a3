import Derived.Test.YtokbfellcadkpaaGreatPp01
import Derived.Test.YtokbfellcadkpaaGreatPp02
import Derived.Deep.DeepCutAuto
import Derived.Deep.RegionHeld3
import Derived.Deep.RegionLaw
import Derived.Deep.CutBlock
set_option linter.unusedVariables false
set_option maxRecDepth 100000
set_option maxHeartbeats 9000000
namespace Go.Proofs.YtokbfellcadkpaaGreat
open Tryz
section
open Go.RowKit
def sR(l:List Int):List Value:=l.map (Value.int .i64)
theorem XE{l:List jU}{k:Nat}(h:k<l.length):∃f,l[k]? = some f:=⟨l[k],qC h⟩
theorem Ho{l:List jU}{n:Tw}{k:Nat}{f:jU}(h:l[k]? = some f)(a:f.name=n):jD l n<=k:=by
 unfold jD;have b:k<l.length:=(qP.1 h).1;rcases Nat.lt_or_ge k (l.findIdx (fun f=>decide (f.name=n))) with c|c
 ·have:=List.not_of_lt_findIdx c;rw[qC b]at h;have e:l[k]=f:=by simpa using h
  rw[e]at this;simp[a]at this
 ·exact c
theorem fN{l:List jU}{n:Tw}(h:jD l n<l.length):∃f,l[jD l n]? = some f/\f.name=n:=by
 have a:l.findIdx (fun f=>decide (f.name=n))<l.length:=h;have:=List.findIdx_getElem (w:=a);exact⟨l[jD l n],qC h,of_decide_eq_true this⟩
theorem sS(l:List jU)(k:Nat)(h:jU->jU):(jd l k h).length=l.length:=by unfold jd;simp
def pE(w:World)(v:Value)(l:List Int):Prop :=
 (l=[]/\∃a c,v = .slice a 0 c)∨∃b off d cs f,v = .slice (some ⟨b,off,none⟩) l.length d/\l.length<=d/\d<=maxLen/\w.heap[b]? = some (.cells cs 3 f)/\∀i x,l[i]? = some x->cs[off+i]? = some (.int .i64 x)
theorem pE.zg{w:World}{base:Nat}{v:Value}{l:List Int}(h:w.ownsRow base 3 1 v l.length (sR l)):pE w v l:=by
 rcases h.2 with⟨rfl,e⟩|⟨b,c,cs,rfl,_,d,f,g,_,j⟩
 ·exact qX ⟨List.eq_nil_of_length_eq_zero e,none,0,rfl⟩
 ·refine qY ⟨b,0,c,cs,(0,0),rfl,f,g,d,fun i x a=>?_⟩;have k:i<l.length:=(qP.1 a).1;have e:(sR l)[i]? = some (.int .i64 x):=by unfold sR;rw[qu,a];rfl
  rw[<-j,List.getElem?_take,qV (by omega)]at e;simpa using e
theorem Kr(l:List jU)(k j:Nat)(h:jU->jU):(jd l k h)[j]? = if j=k then(l[j]?).map h else l[j]? := by
 unfold jd;rw[List.getElem?_modify];by_cases e:j=k
 ·subst e;simp
 ·rw[qZ e];have a:¬k=j:=fun x=>e x.symm
  cases l[j]?<;>simp[a]
theorem Hw{f:jU}{x:Int}(a:f.synced<=f.data.size):(uT f x).data.size=lH f x:=by
 show(f.data.extract 0 (lH f x)).size=_;rw[qT];unfold lH;omega
structure sT(D:jK):Prop where
 xW:∀f∈D.l,f.synced<=f.data.size/\f.data.size<=1048576
 many:D.l.length<=400
 used:jA D.l<=1048576
 cap:D.cap<=1048576
 fails:D.fails<=1099511627777
theorem Ks{l:List jU}{n:Tw}(h:¬jD l n<l.length):l[jD l n]? = none:=List.getElem?_eq_none (by omega)
theorem LQ(l:List jU)(n:Tw):vp l n<=l.length:=List.findIdx_le_length
theorem s8{l:List jU}{f:jU}(h:f∈l):f.data.size<=jA l:=by
 induction l with
 | nil=>cases h
 | cons x l a =>
   have e:jA (x::l)=x.data.size+jA l:=(by unfold jA;simp);rcases qL.1 h with rfl|h
   ·omega
   ·have:=a h;omega
theorem mB(l:List jU):∀(k:Nat) (f:jU) (h:jU->jU),l[k]? = some f->jA (jd l k h)+f.data.size=jA l+(h f).data.size:=by
 induction l with
 | nil=>intro k f h a;simp at a
 | cons x l c =>
   intro k f h a;have e:∀x l,jA (x::l)=x.data.size+jA l:=fun x l=>by unfold jA;simp
   cases k with
   | zero =>
     obtain rfl:x=f:=(by simpa using a);have b:jd (x::l) 0 h=h x::l:=rfl;rw[b,e,e];omega
   | succ k =>
     have b:jd (x::l) (k+1) h=x::jd l k h:=rfl;have:=c k f h (by simpa using a);rw[b,e,e];omega
theorem Kt{l:List jU}{k:Nat}{h:jU->jU}{x:jU}(c:x∈jd l k h):x∈l∨∃f,l[k]? = some f/\x=h f:=by
 obtain⟨j,a⟩:=List.getElem?_of_mem c;rw[Kr]at a;by_cases e:j=k
 ·subst e;rw[qV rfl]at a;cases b:l[j]? with
  | none=>rw[b]at a;cases a
  | some f=>rw[b]at a;exact qY ⟨f,rfl,by simpa using a.symm⟩
 ·rw[qZ e]at a;exact qX (qM a)
theorem sT.app{D:jK}(h:sT D){k:Nat}{f:jU}(d:D.l[k]? = some f)(s:Tw)(j:jA D.l+s.size<=D.cap):sT { D with l:=jd D.l k (fun f=>{ f with data:=f.data++s }) }:=by
 have m:jA (jd D.l k (fun f=>{ f with data:=f.data++s }))+f.data.size=jA D.l+(f.data++s).size:=mB D.l k f (fun f=>{ f with data:=f.data++s }) d;have o:(f.data++s).size=f.data.size+s.size:=qy;have i:=h.cap;have n:jA (jd D.l k (fun f=>{ f with data:=f.data++s }))=jA D.l+s.size:=by omega
 refine⟨fun x a=>?_,by show(jd _ _ _).length<=_;rw[sS];exact h.many,by show jA (jd _ _ _)<=_;omega,h.cap,h.fails⟩;have g:x.data.size<=jA (jd D.l k (fun f=>{ f with data:=f.data++s })):=s8 a;refine⟨?_,by omega⟩;rcases Kt a with a|⟨b,c,rfl⟩
 ·exact(h.xW x a).1
 ·have:=(h.xW b (qM c)).1;show b.synced<=(b.data++s).size;rw[qy];omega
theorem LX{D:jK}{n:Tw}{a k:Int}(b:D.down=true):kK D n a k=(ByteArray.empty,61,D):=by
 unfold kK;rw[qV b]
def s9(D:jK):jK:={ D with count:=D.count+1 }
theorem LZ{D:jK}{n:Tw}{a k:Int}(b:D.down=false)(c:¬jD D.l n<D.l.length):kK D n a k=(ByteArray.empty,4,s9 D):=by
 unfold kK;rw[qZ (by rw[b];decide)];simp only[Ks c];rfl
theorem LJ{D:jK}{n:Tw}{a k:Int}{f:jU}(c:D.down=false)(d:D.l[jD D.l n]? = some f)(b:a<0∨k<0∨(f.data.size:Int)<a∨(f.data.size:Int)-a<k):kK D n a k=(ByteArray.empty,2,s9 D):=by
 unfold kK;rw[qZ (by rw[c];decide)];simp only[d];rw[qV b];rfl
theorem LK{D:jK}{n:Tw}{a k:Int}{f:jU}(c:D.down=false)(d:D.l[jD D.l n]? = some f)(b:¬(a<0∨k<0∨(f.data.size:Int)<a∨(f.data.size:Int)-a<k)):kK D n a k=(f.data.extract a.toNat (a.toNat+k.toNat),0,s9 D):=by
 unfold kK;rw[qZ (by rw[c];decide)];simp only[d];rw[qZ b];rfl
def Ka(D:jK)(n:Tw)(k:Int):jK:={ D with l:=jd D.l (jD D.l n) (fun f=>⟨f.name,f.data.extract 0 (min k.toNat f.data.size),min f.synced (min k.toNat f.data.size)⟩) }
theorem LV{D:jK}{n:Tw}{k:Int}(a:jD D.l n<D.l.length)(b:¬k<0):gA D n k=(0,Ka D n k):=by
 unfold gA;rw[qV a,qZ b];rfl
theorem LY{D:jK}{n:Tw}{k:Int}(a:jD D.l n<D.l.length)(b:k<0):gA D n k=(2,D):=by
 unfold gA;rw[qV a,qV b]
theorem LU{D:jK}{n:Tw}{k:Int}(a:¬jD D.l n<D.l.length):gA D n k=(4,D):=by
 unfold gA;rw[qZ a]
theorem pF{P:Program}(x y:Int)(m:Nat)(h:(m:Int)=if y<x then y else x):∀a t w,(Builtin.min_ a t #[.int .i64 x,.int .i64 y]).run P w = .ok (.int .i64 (m:Nat)) w:=fun a t w=>by
 rw[run_min_int2,h]
theorem LG{D:jK}{n:Tw}(a:D.down=false)(b:jD D.l n<D.l.length):j6 D n=if vf D then(0, { bx D with l:=kO D.l (jD D.l n) }) else(61,uE D D.keep):=by
 unfold j6 yW;rw[qZ (by rw[a];decide),qV b];rfl
theorem LW{D:jK}{n:Tw}(a:D.down=false)(b:¬jD D.l n<D.l.length):j6 D n=(4,D):=by
 unfold j6;rw[qZ (by rw[a];decide),qZ b]
theorem LA{D:jK}{n:Tw}(a:D.down=true):j6 D n=(61,D):=by
 unfold j6;rw[qV a]
theorem LB{D:jK}{n:Tw}(a:D.down=true):jP D n=(61,D):=by
 unfold jP;rw[qV a]
theorem LC{D:jK}{n:Tw}(a:D.down=false)(b:ky n=false):jP D n=(2,D):=by
 unfold jP;rw[qZ (by rw[a];decide),b,qV (by decide)]
theorem LD{D:jK}{n:Tw}(a:D.down=false)(c:ky n=true)(b:jD D.l n<D.l.length):jP D n=(62,D):=by
 unfold jP;rw[qZ (by rw[a];decide),c,qZ (by decide),qV b]
theorem LF{D:jK}{n:Tw}(a:D.down=false)(d:ky n=true)(b:¬jD D.l n<D.l.length)(c:400<=D.l.length):jP D n=(60,D):=by
 unfold jP;rw[qZ (by rw[a];decide),d,qZ (by decide),qZ b,qV c]
theorem LH{D:jK}{n:Tw}(a:D.down=false)(d:ky n=true)(b:¬jD D.l n<D.l.length)(c:¬400<=D.l.length):
  jP D n=if vf D then(0, { bx D with l:=kY D.l ⟨n,ByteArray.empty,0⟩ }) else(61,uE D D.keep):=by
 unfold jP yW;rw[qZ (by rw[a];decide),d,qZ (by decide),qZ b,qZ c];rfl
theorem LI{D:jK}{n b:Tw}(a:D.down=true):vD D n b=(61,D):=by
 unfold vD;rw[qV a]
theorem LL{D:jK}{n c:Tw}(a:D.down=false)(b:¬jD D.l n<D.l.length):vD D n c=(4,D):=by
 unfold vD;rw[qZ (by rw[a];decide),qZ b]
theorem LM{D:jK}{n a:Tw}(b:D.down=false)(c:jD D.l n<D.l.length)(d:ky a=false):vD D n a=(2,D):=by
 unfold vD;rw[qZ (by rw[b];decide),qV c,d,qV (by decide)]
theorem LN{D:jK}{n a:Tw}(b:D.down=false)(c:jD D.l n<D.l.length)(d:ky a=true):
  vD D n a=if vf D then(0, { bx D with l:=if n=a then D.l else fH D.l (jD D.l n) a }) else(61,uE D D.keep):=by
 unfold vD yW;rw[qZ (by rw[b];decide),qV c,d,qZ (by decide)];rfl
def yM(m:List jU)(a:Tw):List jU:=if jD m a<m.length then kO m (jD m a) else m
theorem nL{l:List jU}{i:Nat}{f:jU}{a:Tw}(h:l[i]? = some f):fH l i a=kY (yM (kO l i) a) { f with name:=a }:=by
 unfold fH;rw[h];rfl
theorem pH{l:List jU}{i:Nat}(h:i<l.length):(kO l i).length+1=l.length:=by
 unfold kO;rw[qI,qS,List.length_drop];omega
theorem Ke(m:List jU)(a:Tw):(yM m a).length<=m.length:=by
 unfold yM;split
 ·rename_i h;have:=pH h;omega
 ·exact qK _
theorem LO{D:jK}{n:Tw}{a:Int}{s:Tw}(b:¬jD D.l n<D.l.length):gW D n a s=(4,D):=by
 unfold gW;rw[qZ b]
theorem LP{D:jK}{n:Tw}{a:Int}{s:Tw}(c:jD D.l n<D.l.length)(b:a<0):gW D n a s=(2,D):=by
 unfold gW;rw[qV c,qV b]
theorem LR{D:jK}{n:Tw}{a:Int}{s:Tw}(c:jD D.l n<D.l.length)(b:¬a<0):gW D n a s=(0, { D with l:=jd D.l (jD D.l n) (fun f=>{ f with data:=y7 f.data s a.toNat }) }):=by
 unfold gW;rw[qV c,qZ b]
theorem fO(d s:Tw)(a k:Nat):(cU d s a k).length=d.size:=by
 unfold cU;rw[List.length_mapIdx];exact Array.length_toList
theorem XF(d s:Tw)(a k j:Nat)(b:j<d.size):(cU d s a k).getD j 0=if a<=j/\j<a+min k s.size then s.data.toList.getD (j-a) 0 else d.data.toList.getD j 0:=by
 have c:d.data.toList.length=d.size:=Array.length_toList;unfold cU;rw[qz,List.getElem?_mapIdx,qC (by omega),qz (l:=d.data.toList),qC (by omega)];rfl
def y9(c:Nat):jK:=⟨c,[],0,false,0,0,[]⟩
theorem pE.xQ{w:World}{v:Value}{l:List Int}(h:pE w v l):kX w v l:=by
 rcases h with h|⟨b,off,d,cs,f,g,j,k,a,m⟩
 ·exact qX h
 ·refine qY ⟨b,off,d,g,j,k, ?_,fun i x n=>?_⟩
  ·rcases Nat.lt_or_ge b w.heap.size with c|c
   ·exact c
   ·rw[Array.getElem?_eq_none c]at a;cases a
  ·rw[cell_of_row w b (off+i) cs _ f a];exact m i x n
theorem kX.qe{F:List Nat}{w w':World}{v:Value}{l:List Int}(h:kX w v l)(c:jG F w w')(hF:∀b,v.ownBlock=some b->b ∉ F):kX w' v l:=by
 rcases h with h|⟨b,off,d,rfl,f,g,a,j⟩
 ·exact qX h
 ·exact qY ⟨b,off,d,rfl,f,g,qR a c.size,fun i x k=>(c.cell (p:=⟨b,off+i,none⟩) a (hF b rfl)).trans (j i x k)⟩
structure vr(D:jK):Prop where
 xW:∀f∈D.l,f.synced<=f.data.size/\f.data.size<=1048576
 many:D.l.length<=400
 used:jA D.l<=1048576
 cap:D.cap<=1048576
abbrev jL:= World->Nat->Nat->List Nat->jK->Prop
abbrev ptr(g:Nat):Value:=.pointer (some ⟨g,0,none⟩)
def vg(At:jL)(base g:Nat)(F:List Nat)(w:World)(v:Value)(E:jK)(e:Ending)(w':World):Prop :=
 ∃a,e = .returned v/\At w' base g a E/\(∀x∈a,x∈F∨w.heap.size<=x)/\jG F w w'
def uX(w:World)(v:Value)(l:List Tw):Prop :=
 (l=[]/\∃a c,v = .slice a 0 c)∨∃b off d,v = .slice (some ⟨b,off,none⟩) l.length d/\l.length<=d/\d<=maxLen/\b<w.heap.size/\∀i x,l[i]? = some x->w.cell? ⟨b,off+i,none⟩=some (.string x)
theorem uX.cell{w:World}{v:Value}{l:List Tw}(h:uX w v l):∃A off cap,v = .slice A l.length cap/\l.length<=maxLen/\∀i x,l[i]? = some x->∃b,A=some ⟨b,off,none⟩/\w.cell? ⟨b,off+i,none⟩=some (.string x):=by
 rcases h with⟨rfl,a,c,rfl⟩|⟨b,off,cap,d,j,k,m,f⟩
 ·exact⟨a,0,c,rfl,qF _,fun i x h=>by simp at h⟩
 ·exact⟨some ⟨b,off,none⟩,off,cap,d,by omega,fun i x g=>⟨b,rfl,f i x g⟩⟩
def Ki(At:jL)(base g:Nat)(F:List Nat)(w:World)(l:List Tw)(E:jK)(e:Ending)(w':World):Prop :=
 ∃a v,e = .returned v/\uX w' v l/\(∀b,v.ownBlock=some b->w.heap.size<=b/\b ∉ a)/\At w' base g a E/\(∀x∈a,x∈F∨w.heap.size<=x)/\jG F w w'
def Ko(At:jL)(base:Nat)(w:World)(c:Nat)(e:Ending)(w':World):Prop :=
 ∃g F,e = .returned (.tuple #[ptr g,.int .i64 0])/\At w' base g F (y9 c)/\(∀x∈F,w.heap.size<=x)/\jG [] w w'
abbrev err(n:Nat):Value:=.int .i64 (n:Nat)
structure jM(At:jL):Prop where
 qe:∀ {w w':World} {base g:Nat} {F G:List Nat} {D:jK},At w base g F D->jG G w w'->(∀x∈F,x ∉ G)->At w' base g F D
 low:∀ {w:World} {base g:Nat} {F:List Nat} {D:jK},At w base g F D->∀x∈F,base<=x/\x<w.heap.size
 zo : ∀(base c:Nat) (w:World),base<=w.heap.size->c<=1048576->Calls prog 7 #[.int .i64 (c:Nat)] w (Ko At base w c)
 create:∀ {w:World} {base g:Nat} {F:List Nat} {D:jK} (n:Tw),At w base g F D->vr D->n.size<=maxLen ->
  Calls prog 129 #[ptr g,.string n] w (vg At base g F w (err (jP D n).1) (jP D n).2)
 append:∀ {w:World} {base g:Nat} {F:List Nat} {D:jK} (n s:Tw),At w base g F D->vr D->s.size<=1099511627776->n.size<=maxLen ->
  Calls prog 131 #[ptr g,.string n,.string s] w (vg At base g F w (err (j9 D n s).1) (j9 D n s).2)
 read:∀ {w:World} {base g:Nat} {F:List Nat} {D:jK} (n:Tw) (a k:Int),At w base g F D->vr D->D.count<=1099511627776->(Lit.int .i64 a).wf=true->(Lit.int .i64 k).wf=true->n.size<=maxLen ->
  Calls prog 51 #[ptr g,.string n,.int .i64 a,.int .i64 k] w (vg At base g F w (.tuple #[.string (kK D n a k).1,err (kK D n a k).2.1]) (kK D n a k).2.2)
 sync:∀ {w:World} {base g:Nat} {F:List Nat} {D:jK} (n:Tw),At w base g F D->vr D->n.size<=maxLen ->
  Calls prog 147 #[ptr g,.string n] w (vg At base g F w (err (jc D n).1) (jc D n).2)
 rename:∀ {w:World} {base g:Nat} {F:List Nat} {D:jK} (n m:Tw),At w base g F D->vr D->m.size<=maxLen->n.size<=maxLen ->
  Calls prog 190 #[ptr g,.string n,.string m] w (vg At base g F w (err (vD D n m).1) (vD D n m).2)
 delete:∀ {w:World} {base g:Nat} {F:List Nat} {D:jK} (n:Tw),At w base g F D->vr D->n.size<=maxLen ->
  Calls prog 54 #[ptr g,.string n] w (vg At base g F w (err (j6 D n).1) (j6 D n).2)
 names:∀ {w:World} {base g:Nat} {F:List Nat} {D:jK},At w base g F D->vr D ->
  Calls prog 48 #[ptr g] w (Ki At base g F w (D.l.map jU.name) D)
 free:∀ {w:World} {base g:Nat} {F:List Nat} {D:jK},At w base g F D->vr D ->
  Calls prog 162 #[ptr g] w (vg At base g F w (.int .i64 ((D.cap:Int)-(jA D.l:Nat))) D)
 ze:∀ {w:World} {base g:Nat} {F:List Nat} {D:jK} (n:Tw) (a:Int) (s:Tw),At w base g F D->vr D->(Lit.int .i64 a).wf=true->s.size<=1048576->n.size<=maxLen ->
  Calls prog 52 #[ptr g,.string n,.int .i64 a,.string s] w (vg At base g F w (err (gW D n a s).1) (gW D n a s).2)
 cut:∀ {w:World} {base g:Nat} {F:List Nat} {D:jK} (n:Tw) (k:Int),At w base g F D->vr D->(Lit.int .i64 k).wf=true->n.size<=maxLen ->
  Calls prog 53 #[ptr g,.string n,.int .i64 k] w (vg At base g F w (err (gA D n k).1) (gA D n k).2)
 zi:∀ {w:World} {base g:Nat} {F:List Nat} {D:jK},At w base g F D->Calls prog 116 #[ptr g] w fun e w'=>e = .returned (.bool (!D.down))/\w=w'
 zm:∀ {w:World} {base g:Nat} {F:List Nat} {D:jK},At w base g F D->Calls prog 23 #[ptr g] w fun e w'=>e = .returned (.int .i64 (D.qp:Nat))/\w=w'
 xe:∀ {w:World} {base g:Nat} {F:List Nat} {D:jK} (n:Tw),At w base g F D->vr D->n.size<=maxLen->Calls prog 50 #[ptr g,.string n] w fun e w'=>e = .returned (.tuple #[.int .i64 ((jH D n).1:Nat),err (jH D n).2])/\w=w'
 qw:∀ {w:World} {base g:Nat} {F:List Nat} {D:jK},At w base g F D->D.l.Pairwise (fun f g=>vC f.name g.name=true)/\∀f∈D.l,ky f.name=true
end
section
theorem nM(x:jU)(l:List jU):jA (x::l)=x.data.size+jA l:=by unfold jA;simp
theorem sq(a b:List jU):jA (a++b)=jA a+jA b:=by unfold jA;rw[List.map_append,List.sum_append]
theorem Kw(l:List jU)(k:Nat):jA l=jA (l.take k)+jA (l.drop k):=by rw[<-sq,ql]
theorem nN(l:List jU)(f:jU):jA (kY l f)=jA l+f.data.size:=by
 unfold kY;have h:=Kw l (vp l f.name);have a:jA [f]=f.data.size:=by rw[nM];rfl
 rw[sq,sq,a];omega
theorem pI(l:List jU)(f:jU):(kY l f).length=l.length+1:=by
 unfold kY;have:=LQ l f.name;rw[qI,qI,qS,List.length_drop];show min _ _+1+_=_;omega
theorem mC{l:List jU}{f x:jU}(h:x∈kY l f):x∈l∨x=f:=by
 unfold kY at h;rw[qB,qB]at h;rcases h with(h|h)|h
 ·exact qX (List.mem_of_mem_take h)
 ·exact qY (by simpa using h)
 ·exact qX (List.mem_of_mem_drop h)
theorem nO{l:List jU}{i:Nat}{x:jU}(h:x∈kO l i):x∈l:=by
 unfold kO at h;rw[qB]at h;rcases h with h|h
 ·exact List.mem_of_mem_take h
 ·exact List.mem_of_mem_drop h
theorem pL{l:List jU}{i:Nat}{f:jU}(h:l[i]? = some f):jA (kO l i)+f.data.size=jA l:=by
 unfold kO;have b:=Kw l i;have a:=(qP.1 h).1
 have c:l.drop i=f::l.drop (i+1):=by
  rw[List.drop_eq_getElem_cons a];congr 1;rw[qC a]at h;simpa using h
 rw[c,nM]at b;rw[sq];omega
theorem VQ{l:List jU}{n:Tw}{x:jU}(h:x∈yM l n):x∈l:=by
 unfold yM at h;split at h
 ·exact nO h
 ·exact h
theorem VX(l:List jU)(n:Tw):jA (yM l n)<=jA l:=by
 unfold yM;split
 ·rename_i h;obtain⟨f,a⟩:=XE h;have:=pL a;omega
 ·exact qK _
theorem VZ(f:jU)(k:Int):(uT f k).data.size<=f.data.size/\(f.synced<=f.data.size->(uT f k).synced<=(uT f k).data.size):=by
 refine⟨?_,fun h=>by rw[Hw h];exact qK _⟩;show(f.data.extract 0 (lH f k)).size<=_;rw[qT];omega
theorem VJ: ∀(l m:List jU),l.length=m.length->(∀(i:Nat) x y,l[i]? = some x->m[i]? = some y->x.data.size<=y.data.size)->jA l<=jA m
 | [],[],_,_=>qK _
 | x::l,y::m,h,hp=>by
   rw[nM,nM];have h1:=hp 0 x y rfl rfl;have f:=VJ l m (by simpa using h) (fun i a b c d=>hp (i+1) a b (by simpa using c) (by simpa using d));omega
 | [],_::_,h,_=>by simp at h
 | _::_,[],h,_=>by simp at h
theorem VK(l:List jU)(keep:List Int)(j:Nat):(bU l keep)[j]? = (l[j]?).map (fun f=>uT f (keep.getD j 0)):=by unfold bU;simp
end
structure WfP(D:jK):Prop where
 synced:∀f∈D.l,f.synced<=f.data.size
 used:jA D.l<=D.cap
 cap:D.cap<=1048576
 many:D.l.length<=400
theorem WfP.ok{D:jK}(h:WfP D):vr D:=by
 have b:=h.used;have c:=h.cap;exact⟨fun f a=>⟨h.synced f a,by have:=s8 a;omega⟩,h.many,by omega,h.cap⟩
theorem WfP.next{D:jK}(h:WfP D):WfP (bx D):=⟨h.synced,h.used,h.cap,h.many⟩
theorem WfP.sink{D:jK}(h:WfP D)(keep:List Int):WfP (uE D keep):=by
 have c:(bU D.l keep).length=D.l.length:=by unfold bU;simp
 refine⟨fun f g=>?_, ?_,h.cap,by show(bU D.l keep).length<=_;rw[c];exact h.many⟩
 ·obtain⟨j,a⟩:=List.getElem?_of_mem (show f∈bU D.l keep from g);rw[VK]at a;cases b:D.l[j]? with
  | none=>rw[b]at a;cases a
  | some x =>
    rw[b]at a;obtain rfl:uT x (keep.getD j 0)=f:=(by simpa using a);exact(VZ x _).2 (h.synced x (qM b))
 ·refine qO (VJ _ _ c (fun i x y k m=>?_)) h.used;have d:(bU D.l keep)[i]? = some x:=k;rw[VK,m]at d;obtain rfl:uT y (keep.getD i 0)=x:=by simpa using d
  exact(VZ y _).1
theorem WfP.setF{D:jK}(h:WfP D){k:Nat}{f:jU}(c:D.l[k]? = some f)(g:jU->jU)(i:(g f).synced<=(g f).data.size)(j:jA D.l+(g f).data.size<=D.cap+f.data.size):WfP { D with l:=jd D.l k g }:=by
 have m:=mB D.l k f g c;refine⟨fun x a=>?_,by show jA (Go.Proofs.YtokbfellcadkpaaGreat.jd D.l k g)<=D.cap;omega,h.cap,by show(Go.Proofs.YtokbfellcadkpaaGreat.jd D.l k g).length<=_;rw[sS];exact h.many⟩;rcases Kt a with a|⟨d,b,rfl⟩
 ·exact h.synced x a
 ·rw[c]at b;obtain rfl:f=d:=by simpa using b
  exact i
theorem WfP.done{D E:jK}(h:WfP D)(a:WfP E):WfP (yW D E).2:=by
 unfold yW;split
 ·exact⟨a.synced,a.used,a.cap,a.many⟩
 ·exact h.sink _
theorem VV{c:Nat}(a:c<=1048576):WfP (y9 c):=⟨fun f b=>(by cases b),qF _,a,qF _⟩
section
variable {D:jK}(h:WfP D)
include h
theorem lO(n:Tw):WfP (jP D n).2:=by
 unfold jP;split
 ·exact h
 ·split
  ·exact h
  ·split
   ·exact h
   ·split
    ·exact h
    ·rename_i b;refine h.done ⟨fun f a=>?_, ?_,h.cap, ?_⟩
     ·rcases mC a with a|rfl
      ·exact h.synced f a
      ·exact qF _
     ·show jA (kY _ _)<=_;rw[nN];exact h.used
     ·show(kY _ _).length<=_;rw[pI];omega
theorem lP(n s:Tw):WfP (j9 D n s).2:=by
 unfold j9;split
 ·exact h
 ·split
  ·rename_i c;split
   ·exact h
   ·rename_i d;obtain⟨f,b,_⟩:=fN c;have a:WfP (uQ D n s):=h.setF b _ (by show f.synced<=(f.data++s).size;have:=h.synced f (qM b);rw[qy];omega) (by show jA D.l+(f.data++s).size<=_;rw[qy];omega);split
    ·exact a.next
    ·exact a.sink _
  ·exact h
theorem XH(n:Tw)(a k:Int):WfP (kK D n a k).2.2:=by
 have b:WfP { D with count:=D.count+1 }:=⟨h.synced,h.used,h.cap,h.many⟩
 unfold kK;split
 ·exact h
 ·dsimp only;split
  ·exact b
  ·split<;>exact b
theorem mD(n:Tw):WfP (jc D n).2:=by
 unfold jc;split
 ·exact h
 ·split
  ·rename_i a;obtain⟨f,b,_⟩:=fN a;exact h.done (h.setF b _ (qK _) (by have:=h.used;show jA D.l+f.data.size<=_;omega))
  ·exact h
theorem XI(n m:Tw):WfP (vD D n m).2:=by
 unfold vD;split
 ·exact h
 ·split
  ·rename_i c;split
   ·exact h
   ·obtain⟨f,a,_⟩:=fN c;refine h.done ?_;by_cases e:n=m
    ·rw[qV e];exact h
    ·rw[qZ e,nL a];have o:=pL a;have d:=VX (kO D.l (jD D.l n)) m;have j:=pH c;have i:=Ke (kO D.l (jD D.l n)) m;have g:=h.used;have k:=h.many;refine⟨fun x b=>?_, ?_,h.cap, ?_⟩
     ·rcases mC b with b|rfl
      ·exact h.synced x (nO (VQ b))
      ·exact h.synced f (qM a)
     ·show jA (kY _ _)<=_;rw[nN];show _+f.data.size<=D.cap;omega
     ·show(kY _ _).length<=_;rw[pI];omega
  ·exact h
theorem dW(n:Tw):WfP (j6 D n).2:=by
 unfold j6;split
 ·exact h
 ·split
  ·rename_i a;obtain⟨f,b,_⟩:=fN a;have j:=pL b;have g:=pH a;have d:=h.used;have i:=h.many;exact h.done ⟨fun x c=>h.synced x (nO c),by show jA (kO _ _)<=D.cap;omega,h.cap,by show(kO _ _).length<=_;omega⟩
  ·exact h
theorem LS(n:Tw)(a:Int)(s:Tw):WfP (gW D n a s).2:=by
 unfold gW;split
 ·rename_i d;split
  ·exact h
  ·obtain⟨f,b,_⟩:=fN d
   have c:(y7 f.data s a.toNat).size=f.data.size:=by
    show(cU f.data s a.toNat s.size).toArray.size=_;rw[List.size_toArray,fO]
   exact h.setF b _ (by show f.synced<=(y7 f.data s a.toNat).size;rw[c];exact h.synced f (qM b)) (by show jA D.l+(y7 f.data s a.toNat).size<=_;rw[c];have:=h.used;omega)
 ·exact h
theorem L0(n:Tw)(k:Int):WfP (gA D n k).2:=by
 unfold gA;split
 ·rename_i b;split
  ·exact h
  ·obtain⟨f,c,_⟩:=fN b;have a:(f.data.extract 0 (min k.toNat f.data.size)).size=min k.toNat f.data.size:=(by rw[qT];omega);exact h.setF c _ (by show min f.synced (min k.toNat f.data.size)<=(f.data.extract 0 (min k.toNat f.data.size)).size;rw[a];omega) (by show jA D.l+(f.data.extract 0 (min k.toNat f.data.size)).size<=_;rw[a];have:=h.used;omega)
 ·exact h
end
section
def jW(l:List jU)(n:Tw):Option jU:=l.find? (fun f=>decide (f.name=n))
theorem dA: ∀(l:List jU) (n:Tw),l[jD l n]? = jW l n
 | [],n=>rfl
 | x::l,n=>by
   have ih:=dA l n;unfold jD jW at*;rw[List.findIdx_cons,List.find?_cons];cases h:decide (x.name=n)
   ·simpa using ih
   ·rfl
theorem fP{l:List jU}{n:Tw}:jD l n<l.length↔jW l n≠none:=by
 rw[<-dA];constructor
 ·intro h e;rw[qC h]at e;cases e
 ·intro h;rcases Nat.lt_or_ge (jD l n) l.length with c|c
  ·exact c
  ·exact absurd (List.getElem?_eq_none c) h
theorem L3{l:List jU}{n:Tw}{f:jU}(h:jW l n=some f):f.name=n:=by
 have:=List.find?_some h;simpa using this
theorem VY{l:List jU}{n:Tw}{f:jU}(h:jW l n=some f):f∈l:=List.mem_of_find?_eq_some h
theorem fS{l:List jU}{n:Tw}:jW l n=none↔∀f∈l,f.name≠n:=by
 unfold jW;rw[List.find?_eq_none];simp
theorem lR(h:jU->jU)(c:∀f,(h f).name=f.name)(n m:Tw):∀l:List jU,jW (jd l (jD l n) h) m=if m=n then(jW l n).map h else jW l m
 | []=>by
   unfold jd jW jD;simp
 | x::l=>by
   have ih:=lR h c n m l;by_cases e:x.name=n
   ·have b:jD (x::l) n=0:=(by unfold jD;rw[List.findIdx_cons];simp[e]);rw[b];show jW (h x::l) m=_;unfold jW;rw[List.find?_cons,List.find?_cons,List.find?_cons,c,qA e];by_cases a:m=n
    ·rw[qV a,a,qA e];rfl
    ·rw[qZ a,qW (fun q=>a (by rw[<-e,q]))]
   ·have b:jD (x::l) n=jD l n+1:=(by unfold jD;rw[List.findIdx_cons];simp[e]);rw[b];show jW (x::jd l (jD l n) h) m=_;unfold jW at ih ⊢;rw[List.find?_cons,List.find?_cons,List.find?_cons,qW e];by_cases a:x.name=m
    ·rw[qA a];by_cases q:m=n
     ·exact absurd (a.trans q) e
     ·rw[qZ q]
    ·rw[qW a];exact ih
theorem XL{l:List jU}{f:jU}(c:jW l f.name=none)(m:Tw):jW (kY l f) m=if m=f.name then some f else jW l m:=by
 have b:=fS.1 c;unfold kY;have d:l=l.take (vp l f.name)++l.drop (vp l f.name):=(ql _ _).symm;generalize vp l f.name=k at*;unfold jW;rw[List.find?_append,List.find?_append];by_cases e:m=f.name
 ·subst e;rw[qV rfl,List.find?_eq_none.2 (fun x g=>by simpa using b x (List.mem_of_mem_take g))];simp
 ·rw[qZ e];have a:[f].find? (fun f=>decide (f.name=m))=none:=by simp[Ne.symm e]
  rw[a]
  conv=>rhs;rw[d,List.find?_append]
  simp
theorem lS(h:jU->jU)(hh:∀f,(h f).name=f.name):∀(l:List jU) (k:Nat),(jd l k h).map jU.name=l.map jU.name
 | [],k=>by unfold jd;simp
 | x::l,0=>by show(h x::l).map _=_;simp[hh]
 | x::l,k+1=>by
   show(x::jd l k h).map _=_;rw[List.map_cons,List.map_cons,lS h hh l k]
theorem VU{l:List jU}{n:Tw}(h:jU->jU)(a:∀f,(h f).data.size=f.data.size):jA (jd l (jD l n) h)=jA l:=by
 rcases Nat.lt_or_ge (jD l n) l.length with c|c
 ·obtain⟨f,b⟩:=XE c;have:=mB l _ f h b;have:=a f;omega
 ·have e:jd l (jD l n) h=l:=by
   unfold jd;exact List.modify_eq_self c
  rw[e]
theorem nP{D:jK}{n:Tw}{f:jU}(a:D.down=false)(h:jW D.l n=some f):jH D n=(f.data.size,0):=by
 unfold jH;rw[dA,h,qZ (by simp[a])]
theorem sz{D:jK}{n:Tw}{f:jU}{a k:Nat}(b:D.down=false)(h:jW D.l n=some f)(c:a+k<=f.data.size):kK D n (a:Nat) (k:Nat)=(f.data.extract a (a+k),0, { D with count:=D.count+1 }):=by
 unfold kK;dsimp only;rw[dA,h,qZ (by simp[b])];dsimp only;rw[qZ (by omega),qh,qh]
theorem XM{D:jK}{n:Tw}{f:jU}(a:D.down=false)(b:D.fails=0)(h:jW D.l n=some f):jc D n=(0, { D with l:=jd D.l (jD D.l n) (fun f=>{ f with synced:=f.data.size }) }):=by
 unfold jc yW vf;rw[qZ (by simp[a]),qV (fP.2 (by rw[h];simp)),b,qV (by decide)]
theorem XN{D:jK}{n s:Tw}{f:jU}(b:D.down=false)(a:D.fails=0)(h:jW D.l n=some f)(c:jA D.l+s.size<=D.cap):j9 D n s=(0,uQ D n s):=by
 unfold j9 vf;rw[qZ (by simp[b]),qV (fP.2 (by rw[h];simp)),qZ (by omega),a,qV (by decide)];unfold bx uQ;simp[a]
theorem VG{D:jK}{n:Tw}(a:D.down=false)(b:D.fails=0)(c:ky n=true)(h:jW D.l n=none)(d:D.l.length<400):jP D n=(0, { D with l:=kY D.l ⟨n,ByteArray.empty,0⟩ }):=by
 unfold jP yW vf;rw[qZ (by simp[a]),qZ (by simp[c]),qZ (fun q=>fP.1 q h),qZ (by omega),b,qV (by decide)]
theorem sj{D:jK}{n:Tw}(a:D.down=false)(h:jW D.l n=none):j6 D n=(4,D):=by
 unfold j6;rw[qZ (by simp[a]),qZ (fun q=>fP.1 q h)]
def jk(D:jK)(n s:Tw):Nat × jK :=
 if (jP D n).1≠0 then jP D n
 else if (j9 (jP D n).2 n s).1≠0 then j9 (jP D n).2 n s
 else jc (j9 (jP D n).2 n s).2 n
def rdW(D:jK)(n:Tw):Tw × Nat × jK:=if (jH D n).2=0 then kK D n 0 ((jH D n).1:Nat) else(ByteArray.empty,(jH D n).2,D)
theorem pM{D:jK}(h:WfP D)(n:Tw):WfP (rdW D n).2.2:=by
 unfold rdW;split
 ·exact XH h _ _ _
 ·exact h
theorem L4(D:jK)(n:Tw):(rdW D n).2.2.count<=D.count+1/\(rdW D n).2.2.cap=D.cap/\(rdW D n).2.2.l=D.l/\(rdW D n).2.2.down=D.down/\(rdW D n).2.2.fails=D.fails:=by
 unfold rdW kK;split
 ·split
  ·exact⟨Nat.le_succ _,rfl,rfl,rfl,rfl⟩
  ·dsimp only;split
   ·exact⟨qK _,rfl,rfl,rfl,rfl⟩
   ·split<;>exact⟨qK _,rfl,rfl,rfl,rfl⟩
 ·exact⟨Nat.le_succ _,rfl,rfl,rfl,rfl⟩
theorem nR{D:jK}(ok:WfP D)(n s:Tw):WfP (jk D n s).2:=by
 unfold jk;have a:=lO ok n;have b:=lP a n s;split
 ·exact a
 ·split
  ·exact b
  ·exact mD b n
structure UpD(D:jK):Prop where
 down:D.down=false
 fails:D.fails=0
 wf:WfP D
theorem UpD.count{D:jK}(h:UpD D)(k:Nat):UpD { D with count:=k }:=⟨h.down,h.fails,⟨h.wf.synced,h.wf.used,h.wf.cap,h.wf.many⟩⟩
theorem L7{c:Nat}(a:c<=1048576):UpD (y9 c):=⟨rfl,rfl,VV a⟩
theorem VW(s:Tw):ByteArray.empty++s=s:=by
 apply ByteArray.ext;rw[ByteArray.data_append];apply Array.toList_inj.1;rw[Array.toList_append];rfl
structure L8(D E:jK)(n s:Tw):Prop where
 up:UpD E
 count:E.count=D.count
 cap:E.cap=D.cap
 used:jA E.l=jA D.l+s.size
 many:E.l.length=D.l.length+1
 file:∀m,jW E.l m=if m=n then some ⟨n,s,s.size⟩ else jW D.l m
theorem XO{D:jK}(h:UpD D)(C:D.l.length<400){n s:Tw}(F:ky n=true)(u:jW D.l n=none)(G:jA D.l+s.size<=D.cap):∃E,jk D n s=(0,E)/\L8 D E n s:=by
 have c1:=VG h.down h.fails F u C;have j:=lO h.wf n;rw[c1]at j;have p:∀m,jW (kY D.l ⟨n,ByteArray.empty,0⟩) m=if m=n then some ⟨n,ByteArray.empty,0⟩ else jW D.l m:=fun m=>XL (f:=⟨n,ByteArray.empty,0⟩) u m
 have u1:jA (kY D.l ⟨n,ByteArray.empty,0⟩)=jA D.l:=by rw[nN];rfl
 obtain⟨a,r⟩:∃a:jK, { D with l:=kY D.l ⟨n,ByteArray.empty,0⟩ }=a:=⟨_,rfl⟩
 have c:a.down=false/\a.fails=0/\a.count=D.count/\a.cap=D.cap/\a.l=kY D.l ⟨n,ByteArray.empty,0⟩:=by rw[<-r];exact⟨h.down,h.fails,rfl,rfl,rfl⟩
 rw[r]at c1 j;have i:jW a.l n=some ⟨n,ByteArray.empty,0⟩:=by rw[c.2.2.2.2,p,qV rfl]
 have g:=XN (s:=s) c.1 c.2.1 i (by rw[c.2.2.2.2,u1,c.2.2.2.1];exact G);have k:=lP j n s;rw[g]at k;obtain⟨b,t⟩:∃b,uQ a n s=b:=⟨_,rfl⟩
 have d:b.down=false/\b.fails=0/\b.count=D.count/\b.cap=D.cap/\b.l=jd a.l (jD a.l n) (fun f=>{ f with data:=f.data++s }):=by
  rw[<-t];exact⟨c.1,c.2.1,c.2.2.1,c.2.2.2.1,rfl⟩
 rw[t]at g k
 have q:∀m,jW b.l m=if m=n then some ⟨n,s,0⟩ else jW D.l m:=fun m=>by
  rw[d.2.2.2.2,lR _ (by intro f;rfl),i];by_cases e:m=n
  ·rw[qV e,qV e];show some (jU.mk n (ByteArray.empty++s) 0)=_;rw[VW]
  ·rw[qZ e,qZ e,c.2.2.2.2,p,qZ e]
 have B:a.l[jD a.l n]? = some ⟨n,ByteArray.empty,0⟩:=by rw[dA];exact i
 have u2:jA b.l=jA D.l+s.size:=by
  have:=mB a.l _ _ (fun f=>{ f with data:=f.data++s }) B;rw[<-d.2.2.2.2]at this;have H:jA a.l=jA D.l:=by rw[c.2.2.2.2];exact u1
  have z:(ByteArray.empty++s).size=s.size:=by rw[VW]
  have A:(ByteArray.empty).size=0:=rfl;simp only[z,A]at this;omega
 have o:jW b.l n=some ⟨n,s,0⟩:=by rw[q,qV rfl]
 have v:=XM d.1 d.2.1 o;have y:=mD k n;rw[v]at y;refine⟨{ b with l:=jd b.l (jD b.l n) (fun f=>{ f with synced:=f.data.size }) }, ?_,⟨d.1,d.2.1,y⟩,d.2.2.1,d.2.2.2.1, ?_, ?_,fun m=>?_⟩
 ·unfold jk;rw[c1];simp only;rw[qZ (by decide),g];simp only;rw[qZ (by decide)];exact v
 ·show jA (jd _ _ _)=_;rw[VU _ (by intro f;rfl),u2]
 ·show(jd _ _ _).length=_;rw[sS,d.2.2.2.2,sS,c.2.2.2.2,pI]
 ·show jW (jd _ _ _) m=_;rw[lR _ (by intro f;rfl),o,q];by_cases e:m=n
  ·rw[qV e,qV e];rfl
  ·rw[qZ e,qZ e,qZ e]
theorem cW{D:jK}{n:Tw}{f:jU}(b:D.down=false)(h:jW D.l n=some f):rdW D n=(f.data,0, { D with count:=D.count+1 }):=by
 unfold rdW;rw[nP b h,qV rfl];have:=sz (a:=0) (k:=f.data.size) b h (by omega);rw[Nat.zero_add]at this
 have e:f.data.extract 0 f.data.size=f.data:=by
  apply ByteArray.ext;rw[ByteArray.data_extract];exact Array.extract_size
 rw[e]at this;exact this
theorem dd{D:jK}{n:Tw}(a:D.down=false)(h:jW D.l n=none):rdW D n=(ByteArray.empty,4,D):=by
 have e:jH D n=(0,4):=by
  unfold jH;rw[qZ (by simp[a]),dA,h]
 unfold rdW;rw[e,qZ (by decide)]
theorem sk{n m:Tw}(b:m≠n):∀l:List jU,jW (kO l (jD l n)) m=jW l m
 | []=>rfl
 | x::l=>by
   have ih:=sk b l;by_cases e:x.name=n
   ·have a:jD (x::l) n=0:=(by unfold jD;rw[List.findIdx_cons];simp[e]);rw[a];show jW l m=_;unfold jW;rw[List.find?_cons,qW (fun q=>b (by rw[<-e,q]))]
   ·have a:jD (x::l) n=jD l n+1:=(by unfold jD;rw[List.findIdx_cons];simp[e]);rw[a];show jW (x::kO l (jD l n)) m=_;unfold jW at ih ⊢;rw[List.find?_cons,List.find?_cons,ih]
theorem sy{D:jK}(h:UpD D){n:Tw}{f:jU}(a:jW D.l n=some f):∃E,j6 D n=(0,E)/\UpD E/\E.count=D.count/\E.cap=D.cap/\E.l=kO D.l (jD D.l n)/\jA E.l+f.data.size=jA D.l/\E.l.length+1=D.l.length/\∀m,m≠n->jW E.l m=jW D.l m:=by
 have b:jD D.l n<D.l.length:=fP.2 (by rw[a];simp);have c:D.l[jD D.l n]? = some f:=by rw[dA];exact a
 have e:j6 D n=(0, { D with l:=kO D.l (jD D.l n) }):=by
  unfold j6 yW vf;rw[qZ (by simp[h.down]),qV b,h.fails,qV (by decide)]
 have w:=dW h.wf n;rw[e]at w;exact⟨_,e,⟨h.down,h.fails,w⟩,rfl,rfl,rfl,pL c,by have:=pH b;show(kO _ _).length+1=_;omega,fun m d=>sk d D.l⟩
end
section
open Go.RowKit
theorem su{a b:Int}(h:a=b):Value.int .u32 a = .int .u32 b:=by rw[h]
theorem L9{a b:Int}(h:a=b):Ending.returned (.int .u32 a) = .returned (.int .u32 b):=by rw[h]
theorem Lq(y:Nat)(d:y<4294967296):bits .xor .u32 ((y:Int)/2) (bits .and .u32 (y:Int) 1*3988292384%4294967296)=((stp y:Nat):Int):=by
 have a:bits .and .u32 (y:Int) 1=((y%2:Nat):Int):=by
  have h:=u32_and_nat y 1 d (by decide);rw[nat_mask1]at h;exact h
 have b:((y%2:Nat):Int)*3988292384%4294967296=((y%2*3988292384:Nat):Int):=by omega
 have c:(y:Int)/2=((y/2:Nat):Int):=by omega
 rw[a,b,c];exact u32_xor_nat _ _ (by omega) (by omega)
theorem Lx(x c:Nat)(w:World)(b:x<4294967296)(g:c<256):
  Calls prog 280 #[.int .u32 (x:Nat),.int .u8 (c:Nat)] w fun e w'=>e = .returned (.int .u32 (pA x c:Nat))/\w=w':=by
 go_enter func280,ntmps280;go_wp2
 go_loop [0,9] (fun a i=>∃k:Nat,k<=8/\i = .int .i64 k/\a = .int .u32 (stk k (x^^^c):Nat)) (fun _ i=>8-(intOf i).toNat)
 case atStart=>exact⟨0,by omega,rfl,su (u32_xor_nat x c b (by omega))⟩
 case round =>
  obtain⟨k,j,rfl,rfl⟩:=hrel;by_cases l:k<8
  ·have f:stk k (x^^^c)<4294967296:=Qw k (fL b (by omega));have d:=qQ (FI k (x^^^c));generalize stk k (x^^^c)=y at*;go_wp2
   go_round
   case rel=>exact⟨k+1,by omega,by go_num,su (by rw[d.out];exact Lq y f)⟩
   case measure=>simp[intOf];omega
  ·obtain rfl:k=8:=(by omega);go_wp2;go_ret;exact⟨rfl,rfl⟩
theorem VA(x:Nat)(a:x<4294967296):bits .xor .u32 IntKind.u32.max (x:Int)=((4294967295-x:Nat):Int):=by
 have e:IntKind.u32.max=((4294967295:Nat):Int):=by decide
 rw[e,KS a];exact u32_xor_nat _ _ (by decide) a
theorem Lz(x:Nat)(s:Tw)(w:World)(n:x<4294967296)(m:s.size<=maxLen):
  Calls prog 258 #[.int .u32 (x:Nat),.string s] w fun e w'=>e = .returned (.int .u32 (nE x s.data.toList:Nat))/\w=w':=by
 unfold maxLen at m;go_enter func258,ntmps258;go_wp2
 go_loop [5,11] (fun a i=>∃k:Nat,k<=s.size/\i = .int .i64 k/\a = .int .u32 (vS (4294967295-x) (s.data.toList.take k):Nat)) (fun _ i=>s.size-(intOf i).toNat)
 case atStart =>
  exact⟨0,by omega,rfl,su (by rw[List.take_zero,KP];exact VA x n)⟩
 case round =>
  obtain⟨k,o,rfl,rfl⟩:=hrel;have c:vS (4294967295-x) (s.data.toList.take k)<4294967296:=fM _ (by omega);by_cases l:k<s.size
  ·have b:=qQ (sD s k l);have g:=qQ (FP (4294967295-x) (s.data.toList.take k) s[k]);have j:=(s[k]).toNat_lt;generalize vS (4294967295-x) (s.data.toList.take k)=y at*;go_wp2_with fail;refine(Lx y _ _ c j).mono ?_;rintro e w'⟨rfl,rfl⟩;go_wp2
   go_round
   case rel=>exact⟨k+1,by omega,by go_num,su (by rw[b.out,g.out])⟩
   case measure=>simp[intOf];omega
  ·obtain rfl:k=s.size:=(by omega);have b:List.take s.size s.data.toList=s.data.toList:=qd (by simp);have d:nE x s.data.toList=4294967295-vS (4294967295-x) s.data.toList:=rfl;rw[b]at c ⊢;clear b;generalize vS (4294967295-x) s.data.toList=y at*;have f:=qQ d;clear d;go_wp2;go_ret;exact⟨L9 (by rw[f.out];exact VA y c),rfl⟩
theorem Lj(s:Tw)(w:World)(a:s.size<=maxLen):
  Calls prog 217 #[.string s] w fun e w'=>e = .returned (.int .u32 (lI s.data.toList:Nat))/\w=w':=by
 have h:=qQ (fun w=>Lz 0 s w (by decide) a);unfold maxLen at a;go_enter func217,ntmps217;go_wp2_with fail;refine(h.out _).mono ?_;rintro e w'⟨rfl,rfl⟩;go_wp2;go_ret;exact⟨rfl,rfl⟩
theorem VB: ∀(k n j:Nat) (h:j<(be k n).length),(be k n)[j]=UInt8.ofNat (n/256 ^ (k-1-j))
 | 0,n,j,h=>by simp[be]at h
 | k+1,n,0,h=>by simp[be]
 | k+1,n,j+1,h=>by
   have a:j<(be k n).length:=(by simpa[be] using h);have e:k+1-1-(j+1)=k-1-j:=(by omega);simp only[be,List.getElem_cons_succ,VB k n j a,e]
def mE(n N k j:Nat):Value:=.int .u8 (if j+k<N then 0 else((n/256 ^ (N-1-j)%256:Nat):Int))
theorem Lv(n N k j:Nat)(b:k<N):(if j=N-1-k then Value.int .u8 ((n/256 ^ k%256:Nat):Int) else mE n N k j)=mE n N (k+1) j:=by
 unfold mE;by_cases h:j=N-1-k
 ·have e:N-1-j=k:=by omega
  rw[qV h,qZ (by omega),e]
 ·rw[qZ h];by_cases a:j+k<N
  ·rw[qV a,qV (by omega)]
  ·rw[qZ a,qZ (by omega)]
theorem Ly(n N j:Nat)(h:j<(be N n).length):mE n N N j = .int .u8 ((be N n)[j].toNat:Int):=by
 unfold mE;rw[qZ (by omega),VB,UInt8.toNat_ofNat']
theorem Lu(n k:Nat):(n:Int)/2 ^ (8*k)%256=((n/256 ^ k%256:Nat):Int):=by
 have e:(2:Nat) ^ (8*k)=256 ^ k:=by rw[Nat.pow_mul]
 rw[<-e,Int.natCast_emod,Int.natCast_ediv,Int.natCast_pow];rfl
theorem gC(n N:Nat)(w:World)(f:1<=N)(g:N<=8)(r:n<18446744073709551616):
  Calls prog 58 #[.int .u64 (n:Nat),.int .i64 (N:Nat)] w fun e w'=>e = .returned (.string (bs (be N n)))/\Below w.heap.size w w':=by
 have q:=run_make_row' (P:=prog) 109 5 (.int .u8 0) 1 Tryz.underlying109 (by kernel_rfl) rfl .i64 .i64 N (by omega) (by omega);go_enter func58,ntmps58;go_wp2;go_loopw [16] (fun i wr=>∃k:Nat,k<=N/\i = .int .i64 k/\wr.rowIs w.heap.size 5 N (mE n N k)/\Below w.heap.size w wr) (fun i _=>N-(intOf i).toNat)
 case atStart=>exact⟨0,qF _,rfl,(World.rowIs_made _ _ _ _).congr (fun j a=>by unfold mE;rw[qV (by omega)]),(Below.refl _ _).alloc (qK _) _⟩
 case round =>
  obtain⟨k,p,rfl,b,c⟩:=hrel;by_cases d:k<N
  ·have l:=b.cell (i:=N-1-k) (by omega);have o:=b.frozen (N-1-k);go_wp2;go_roundw
   case rel =>
    rw[Lu n k];exact⟨k+1,by omega,by go_num,(b.set _ _).congr (fun j _=>Lv n N k j d),c.setCell (qK _) _⟩
   case measure=>simp[intOf];omega
  ·obtain rfl:k=N:=by omega
   have m:(convert 109 9 (.slice (some ⟨w.heap.size,0,none⟩) k k)).run prog wr = .ok (.string (bs (be k n))) wr:=by
    have h:=run_convert_bytes_back (P:=prog) wr 109 9 5 ⟨w.heap.size,0,none⟩ k (be k n) Tryz.underlying109 Tryz.underlying5 Tryz.underlying9
     (fun j a=>by
      have e:(⟨w.heap.size,0,none⟩:Addr).add j=⟨w.heap.size,j,none⟩:=(by simp[Addr.add];omega);rw[e,b.cell (by rw[jq]at a;exact a),Ly n k j a])
    rw[jq]at h;exact h
   go_wp2;go_ret;exact⟨rfl,c⟩
theorem Lg{x:Nat}(i:x<4294967296)(l m:List UInt8)(k:Nat)(n:l.length=m.length)(f:∀j,j<k∨k+4<=j->l[j]? = m[j]?)(e:vS x l=vS x m):l=m:=by
 have a:∀l:List UInt8,l=l.take k++(l.drop k).take 4++l.drop (k+4):=fun l=>by
  have g:=ql k l;have d:=ql 4 (l.drop k);rw[List.drop_drop]at d;rw[qb,d,g]
 have b:l.take k=m.take k:=by
  apply List.ext_getElem?;intro j;rw[List.getElem?_take,List.getElem?_take];split
  ·exact f j (qX (by omega))
  ·rfl
 have c:l.drop (k+4)=m.drop (k+4):=by
  apply List.ext_getElem?;intro j;rw[List.getElem?_drop,List.getElem?_drop];exact f _ (qY (by omega))
 rw[a l,a m,b,c]at e;have h:=FS i _ _ (by simp only[List.length_take,List.length_drop];omega) (by rw[qS];omega) e;rw[a l,a m,b,c,h]
theorem Lb(s:Tw)(k:Nat)(h:k<=7):un (s.data.toList.take k)<=72057594037927935:=by
 have b:=fI (s.data.toList.take k);have a:(s.data.toList.take k).length<=7:=by rw[qS];omega
 have c:256 ^ (s.data.toList.take k).length<=256 ^ 7:=Nat.pow_le_pow_right (by decide) a;have:(256:Nat) ^ 7=72057594037927936:=by decide
 omega
theorem Ld(s:Tw)(k:Nat)(h:k<s.size):un (s.data.toList.take (k+1))=un (s.data.toList.take k)*256+(s[k]).toNat:=by
 rw[sD s k h,KH]
theorem Lh(s:Tw)(k:Nat)(h:k=s.size∨k=8)(a:k<=8):un (s.data.toList.take k)=jR s:=by
 unfold jR;rcases h with h|h
 ·subst h;rw[qd (by simp),qd (by simp;omega)]
 ·rw[h]
theorem Ll(a c:Nat)(g:a<=72057594037927935)(f:c<2 ^ 8):bits .or .u64 ((a:Int)*256) (c:Int)=((a*256+c:Nat):Int):=by
 have e:(a:Int)*256=((a*256:Nat):Int):=by omega
 have h:=Nat.shiftLeft_add_eq_or_of_lt f a;rw[Nat.shiftLeft_eq]at h
 have b:(BitVec.ofInt 64 ((a*256:Nat):Int)).toNat=a*256:=by
  rw[BitVec.ofInt_natCast,BitVec.toNat_ofNat];exact Nat.mod_eq_of_lt (by omega)
 have d:(BitVec.ofInt 64 (c:Int)).toNat=c:=by
  rw[BitVec.ofInt_natCast,BitVec.toNat_ofNat];exact Nat.mod_eq_of_lt (by omega)
 rw[e];show IntKind.u64.wrap ((BitVec.ofInt 64 ((a*256:Nat):Int)|||BitVec.ofInt 64 (c:Int)).toNat:Int)=_;rw[BitVec.toNat_or,b,d,<-show a*256+c=a*256|||c from h,IntKind.wrap_u64];omega
theorem cA(s:Tw)(w:World)(g:s.size<=maxLen):
  Calls prog 84 #[.string s] w fun e w'=>e = .returned (.int .u64 (jR s:Nat))/\w=w':=by
 unfold maxLen at g;by_cases l:s.size<=8
 all_goals
  go_enter func84,ntmps84;go_wp2
  go_loop [3,8] (fun n i=>∃k:Nat,k<=s.size/\k<=8/\i = .int .i64 k/\n = .int .u64 (un (s.data.toList.take k):Nat)) (fun _ i=>8-(intOf i).toNat)
  case atStart=>exact⟨0,qF _,by omega,rfl,rfl⟩
  case round =>
   obtain⟨k,o,d,rfl,rfl⟩:=hrel;by_cases f:k<s.size/\k<8
   ·obtain⟨a,j⟩:=f;have m:=Lb s k (by omega);have hst:=qQ (Ld s k a);have b:=(s[k]).toNat_lt;go_wp2
    go_round
    case rel=>exact⟨k+1,by omega,by omega,by go_num,by rw[hst.out,Ll _ _ (by omega) b]⟩
    case measure=>simp[intOf];omega
   ·have c:=qQ (Lh s k (by omega) d);go_wp2;go_ret;exact⟨mY (by rw[c.out]),rfl⟩
end
section
open Go.RowKit
def DS(At:jL)(w0:World)(gd:Nat)(D:jK)(E:List Nat)(w:World):Prop :=
 ∃F,At w w0.heap.size gd F D/\Below w0.heap.size w0 w/\∀b∈E,b ∉ F/\b<w.heap.size
structure jV(E:List Nat)(w w':World):Prop where
 size:w.heap.size<=w'.heap.size
 block:∀b∈E,w'.heap[b]? = w.heap[b]?
def yX(At:jL)(w0:World)(gd:Nat)(v:Value)(D':jK)(E:List Nat)(w:World)(e:Ending)(w':World):Prop:=e = .returned v/\DS At w0 gd D' E w'/\jV E w w'
abbrev jF(v:Value):List Nat:=v.ownBlock.toList
theorem kG{v:Value}{b:Nat}:b∈jF v↔v.ownBlock=some b:=by simp[jF]
section
variable {E E':List Nat}{w w' w'':World}
theorem jV.refl(E:List Nat)(w:World):jV E w w:=⟨qK _,fun _ _=>rfl⟩
theorem jV.trans(h:jV E w w')(k:jV E w' w''):jV E w w'':=⟨qO h.size k.size,fun b a=>(k.block b a).trans (h.block b a)⟩
theorem jV.less(h:jV E w w')(a:∀b∈E',b∈E):jV E' w w':=⟨h.size,fun b c=>h.block b (a b c)⟩
theorem jV.drew(h:jV E w w'):jV E w w'.drew:=⟨h.size,h.block⟩
theorem jV.qa{g:Nat}{t:TypeId}{cs:Array Value}(h:jV E w w')(a:jY w g t cs)(b:g∈E):jY w' g t cs:=(h.block g b).trans a
theorem jV.xB{B:List Nat}(c:jG B w w')(a:∀b∈E,b<w.heap.size/\b ∉ B):jV E w w':=⟨c.size,fun b h=>c.block b (a b h).1 (a b h).2⟩
theorem jV.qn(a:Below w.heap.size w w')(c:∀b∈E,b<w.heap.size):jV E w w':=⟨a.size,fun b h=>a.block b (c b h)⟩
end
section
variable {At:jL}{w0 w w':World}{gd:Nat}{D D':jK}{E E':List Nat}
theorem DS.kept(h:DS At w0 gd D E w):Below w0.heap.size w0 w:=by obtain⟨F,b,a,c⟩:=h;exact a
theorem DS.lt(h:DS At w0 gd D E w):∀b∈E,b<w.heap.size:=by obtain⟨F,d,f,a⟩:=h;exact fun b c=>(a b c).2
theorem DS.less(h:DS At w0 gd D E w)(f:∀b∈E',b∈E):DS At w0 gd D E' w:=by
 obtain⟨F,a,c,d⟩:=h;exact⟨F,a,c,fun b g=>d b (f b g)⟩
theorem DS.qw(api:jM At)(h:DS At w0 gd D E w):D.l.Pairwise (fun f g=>vC f.name g.name=true):=by
 obtain⟨F,a,b,c⟩:=h;exact(api.qw a).1
theorem DS.zX(api:jM At)(h:DS At w0 gd D E w){B:List Nat}(c:jG B w w')(g:∀b∈B,b∈E/\w0.heap.size<=b):DS At w0 gd D E w':=by
 obtain⟨F,j,f,a⟩:=h;exact⟨F,api.qe j c (fun x d k=>(a x (g x k).1).1 d),f.trans (c.below f.size (fun x d=>(g x d).2)),fun b i=>⟨(a b i).1,qR (a b i).2 c.size⟩⟩
theorem DS.below(api:jM At)(h:DS At w0 gd D E w)(a:Below w.heap.size w w'):DS At w0 gd D E w':=by
 obtain⟨F,g,c,d⟩:=h;exact⟨F,api.qe g (jG.qn a) (fun _ _=>by simp),c.trans (a.mono c.size),fun b f=>⟨(d b f).1,qR (d b f).2 a.size⟩⟩
theorem DS.drew(api:jM At)(h:DS At w0 gd D E w):DS At w0 gd D E w.drew:=h.below api (Below.refl _ _).drew
theorem DS.more(api:jM At)(h:DS At w0 gd D E w)(c:Below w.heap.size w w'){B:List Nat}(i:∀b∈B,w.heap.size<=b/\b<w'.heap.size):DS At w0 gd D (B++E) w':=by
 obtain⟨F,d,f,g⟩:=h;refine⟨F,api.qe d (jG.qn c) (fun _ _=>by simp),f.trans (c.mono f.size),fun b a=>?_⟩;rcases qB.1 a with a|a
 ·exact⟨fun j=>by have:=(api.low d b j).2;have:=(i b a).1;omega,(i b a).2⟩
 ·exact⟨(g b a).1,qR (g b a).2 c.size⟩
theorem DS.qi(api:jM At)(h:DS At w0 gd D E w){P:Program}{f:FuncId}{args:Array Value}{v:Value}(o:∀F,At w w0.heap.size gd F D->Calls P f args w (vg At w0.heap.size gd F w v D')):Calls P f args w (yX At w0 gd v D' E w):=by
 obtain⟨F,g,i,c⟩:=h;refine(o F g).mono ?_;rintro e w'⟨j,l,m,n,d⟩;refine⟨l,⟨j,m,i.trans (d.below i.size (fun x q=>(api.low g x q).1)),fun b a=>⟨fun p=>?_,qR (c b a).2 d.size⟩⟩,d.size,fun b a=>d.block b (c b a).2 (c b a).1⟩;rcases n b p with k|k
 ·exact(c b a).1 k
 ·have:=(c b a).2;omega
theorem DS.at_(h:DS At w0 gd D E w):∃F,At w w0.heap.size gd F D:=by obtain⟨F,a,-⟩:=h;exact⟨F,a⟩
theorem DS.size(api:jM At)(h:DS At w0 gd D E w)(ok:WfP D)(n:Tw)(b:n.size<=maxLen):Calls prog 50 #[ptr gd,.string n] w fun e w'=>e = .returned (.tuple #[.int .i64 ((jH D n).1:Nat),err (jH D n).2])/\w=w':=by
 obtain⟨F,a⟩:=h.at_;exact api.xe n a ok.ok b
end
theorem sg(D:jK)(n:Tw):(D.down=true/\jH D n=(0,61))∨(D.down=false/\((jH D n).2=0∨(jH D n).2=4)):=by
 unfold jH;cases D.down
 ·refine qY ⟨rfl, ?_⟩;rw[qZ (by decide)];split
  ·exact qY rfl
  ·exact qX rfl
 ·exact qX ⟨rfl,rfl⟩
theorem VC{D:jK}(h:WfP D)(n:Tw):(jH D n).1<=1048576:=by
 unfold jH;split
 ·exact qF _
 ·split
  ·exact qF _
  ·rename_i f a;exact(h.ok.xW f (qM a)).2
theorem sb{D:jK}(h:WfP D)(n:Tw):(rdW D n).1.size<=D.cap:=by
 unfold rdW;split
 ·unfold kK;split
  ·exact qF _
  ·dsimp only;split
   ·exact qF _
   ·rename_i f a;split
    ·exact qF _
    ·have:=s8 (qM a);have:=h.used;show(f.data.extract _ _).size<=_;rw[qT];omega
 ·exact qF _
end
section
open Go.RowKit
theorem sc{a b:Int}(h:a=b):Value.int .u64 a = .int .u64 b:=by rw[h]
theorem pN{a b:Int}(h:a=b):Ending.returned (.int .u64 a) = .returned (.int .u64 b):=by rw[h]
theorem VD(x:Nat)(a:x<18446744073709551616):IntKind.u64.wrap (bits .xor .u64 (x:Int) ((x:Int)/4294967296)*11400714819323198485)=((lL x:Nat):Int):=mixStep_u64 x 4294967296 11400714819323198485 a
theorem VE(x:Nat):bits .xor .u64 ((lL x:Nat):Int) (((lL x:Nat):Int)/536870912)=((nH x:Nat):Int):=xorShift_u64 (lL x) 536870912 (XU x)
theorem Lm(x:Nat)(w:World)(a:x<18446744073709551616):
  Calls prog 199 #[.int .u64 (x:Nat)] w fun e w'=>e = .returned (.int .u64 (nH x:Nat))/\w=w':=by
 go_enter func199,ntmps199;go_wp2;go_ret;exact⟨pN (by rw[VD x a,VE]),rfl⟩
theorem Ln: bits .and .u64 (IntKind.u64.wrap (-17)) 63=47:=by decide +kernel
theorem Lp(x:Nat)(a:x<18446744073709551616):x*140737488355328%18446744073709551616|||x/131072=cG x:=by
 have e:x*140737488355328%18446744073709551616=x%131072*140737488355328:=by omega
 have h:=nat_join 47 (x%131072*140737488355328) (x/131072) (Nat.mul_mod_left _ _) (by omega);rw[e,h];unfold cG;omega
theorem Lr(x:Nat)(c:x<18446744073709551616):bits .or .u64 (IntKind.u64.wrap ((x:Int)*140737488355328)) ((x:Int)/131072)=((cG x:Nat):Int):=by
 have a:IntKind.u64.wrap ((x:Int)*140737488355328)=((x*140737488355328%18446744073709551616:Nat):Int):=by
  rw[IntKind.wrap_u64];omega
 have b:(x:Int)/131072=((x/131072:Nat):Int):=by omega
 rw[a,b,u64_or_nat _ _ (by omega) (by omega),Lp x c]
theorem Lt(x:Nat)(w:World)(a:x<18446744073709551616):
  Calls prog 288 #[.int .u64 (x:Nat),.int .i64 (-17)] w fun e w'=>e = .returned (.int .u64 (cG x:Nat))/\w=w':=by
 have b:=Ln;go_enter func288,ntmps288;go_wp2;go_ret;exact⟨pN (Lr x a),rfl⟩
theorem La(x:Nat)(a:x<18446744073709551616):bits .or .u64 ((cG x:Nat):Int) 1=((dU x:Nat):Int):=by
 have h:=u64_or_nat (cG x) 1 (XG a) (by decide);rw[Fk]at h;exact h
theorem Le(x:Nat)(w:World)(a:x<18446744073709551616):
  Calls prog 281 #[.int .u64 (x:Nat)] w fun e w'=>e = .returned (.int .u64 (dU x:Nat))/\w=w':=by
 have h:=qQ (fun w=>Lt x w a);have c:=XG a;have b:=qQ (La x a);generalize cG x=r at*;go_enter func281,ntmps281;go_wp2_with fail;refine(h.out _).mono ?_;rintro e w'⟨rfl,rfl⟩;go_wp2;go_ret;exact⟨pN b.out,rfl⟩
theorem VF(y c:Nat)(b:y<18446744073709551616)(a:c<256):IntKind.u64.wrap (bits .xor .u64 (y:Int) (c:Int)*1099511628211)=((hst y c:Nat):Int):=by
 rw[u64_xor_nat y c b (F9 a),IntKind.wrap_u64,Fq,Int.natCast_emod,Int.natCast_mul];rfl
theorem VH(s:Nat)(a:s<18446744073709551616):bits .xor .u64 14695981039346656037 (s:Int)=((mW^^^s:Nat):Int):=u64_xor_nat 14695981039346656037 s (by decide) a
theorem Li(x:Nat)(s:Tw)(w:World)(j:x<18446744073709551616)(q:s.size<=maxLen):
  Calls prog 158 #[.int .u64 (x:Nat),.string s] w fun e w'=>e = .returned (.int .u64 (uq x s.data.toList:Nat))/\w=w':=by
 unfold maxLen at q;by_cases f:x=0
 ·subst f;go_enter func158,ntmps158;go_wp2;go_ret;exact⟨rfl,rfl⟩
 ·have r:((x:Int)==0)=false:=by simp;omega
  have u:=VH x j;have p:=xlt Kx j;have g:uq x s.data.toList=nH (y8 (mW^^^x) s.data.toList):=by unfold uq;rw[qZ f]
  generalize mW^^^x=b at*;have l:=qQ g;clear g;go_enter func158,ntmps158;go_wp2
  go_loop [5,13] (fun a i=>∃k:Nat,k<=s.size/\i = .int .i64 k/\a = .int .u64 (y8 b (s.data.toList.take k):Nat)) (fun _ i=>s.size-(intOf i).toNat)
  case atStart=>exact⟨0,by omega,rfl,sc (by rw[List.take_zero,sL])⟩
  case round =>
   obtain⟨k,t,rfl,rfl⟩:=hrel;have d:y8 b (s.data.toList.take k)<18446744073709551616:=Kq _ p;by_cases o:k<s.size
   ·have c:=qQ (sD s k o);have m:=qQ (K9 b (s.data.toList.take k) s[k]);have n:=(s[k]).toNat_lt;generalize y8 b (s.data.toList.take k)=y at*;go_wp2
    go_round
    case rel=>exact⟨k+1,by omega,by go_num,sc (by rw[c.out,m.out];exact VF y _ d n)⟩
    case measure=>simp[intOf];omega
   ·obtain rfl:k=s.size:=(by omega);have c:List.take s.size s.data.toList=s.data.toList:=qd (by simp);rw[c]at d ⊢;clear c;generalize y8 b s.data.toList=y at*;have h:=qQ (fun w=>Lm y w d);go_wp2_with fail;refine(h.out _).mono ?_;rintro e w'⟨rfl,rfl⟩;go_wp2;go_ret;exact⟨pN (by rw[l.out]),rfl⟩
theorem Lo(x:Nat)(s:Tw)(w:World)(j:x<18446744073709551616)(q:s.size<=maxLen):
  Calls prog 67 #[.int .u64 (x:Nat),.string s] w fun e w'=>e = .returned (.int .u64 (uq x s.data.toList:Nat))/\w=w':=by
 unfold maxLen at q;by_cases f:x=0
 ·subst f;go_enter func67,ntmps67;go_wp2;go_ret;exact⟨rfl,rfl⟩
 ·have v:((x:Int)==0)=false:=by simp;omega
  have B:=VH x j;have p:=xlt Kx j;have g:uq x s.data.toList=nH (y8 (mW^^^x) s.data.toList):=by unfold uq;rw[qZ f]
  generalize mW^^^x=b at*;have l:=qQ g;clear g;go_enter func67,ntmps67;go_wp2
  go_loop [5,6] (fun a i=>∃k:Nat,k<=s.size/\i = .int .i64 k/\a = .int .u64 (y8 b (s.data.toList.take k):Nat)) (fun _ i=>s.size-(intOf i).toNat)
  case atStart=>exact⟨0,by omega,rfl,sc (by rw[List.take_zero,sL])⟩
  case round =>
   obtain⟨k,A,rfl,rfl⟩:=hrel;have d:y8 b (s.data.toList.take k)<18446744073709551616:=Kq _ p;by_cases o:k<s.size
   ·have c:=qQ (sD s k o);have m:=qQ (K9 b (s.data.toList.take k) s[k]);have n:=(s[k]).toNat_lt;generalize y8 b (s.data.toList.take k)=y at*;go_wp2
    go_round
    case rel=>exact⟨k+1,by omega,by go_num,sc (by rw[c.out,m.out];exact VF y _ d n)⟩
    case measure=>simp[intOf];omega
   ·obtain rfl:k=s.size:=(by omega);have c:List.take s.size s.data.toList=s.data.toList:=qd (by simp);rw[c]at d ⊢;clear c;generalize y8 b s.data.toList=y at*;have r:=VD y d;have t:=VE y;have u:=XU y;generalize lL y=z at*;go_wp2;go_ret;exact⟨pN (by rw[l.out]),rfl⟩
theorem Lw(h n m:Nat)(a:h<18446744073709551616)(b:0<m):prb h (n:Nat) (m:Nat)=(h+n*dU h%18446744073709551616)%18446744073709551616%m:=by
 unfold prb;rw[qZ (by omega),qh,qh];congr 1;omega
theorem MQ(h n m s:Nat)(b:h<18446744073709551616)(f:n<9223372036854775808)(d:m<9223372036854775808)(a:0<m)(c:dU h=s):
  wrap64 (Int.tmod (IntKind.u64.wrap ((h:Int)+IntKind.u64.wrap ((n:Int)*(s:Int)))) (m:Int))=((prb h (n:Nat) (m:Nat):Nat):Int):=by
 rw[Lw h n m b a,c,IntKind.wrap_u64,IntKind.wrap_u64,<-Int.natCast_mul];have e:((h:Int)+((n*s:Nat):Int)%18446744073709551616)%18446744073709551616=(((h+n*s%18446744073709551616)%18446744073709551616:Nat):Int):=by omega
 rw[e];generalize (h+n*s%18446744073709551616)%18446744073709551616=x;rw[<-Int.ofNat_tmod];have:=Nat.mod_lt x a;generalize x%m=y at*;unfold wrap64;omega
theorem VI(h:Nat)(i b:Int)(w:World)(a:h<18446744073709551616)(j:(Lit.int .i64 i).wf=true)(g:(Lit.int .i64 b).wf=true):
  Calls prog 263 #[.int .u64 (h:Nat),.int .i64 i,.int .i64 b] w fun e w'=>e = .returned (.int .i64 (prb h i b:Nat))/\w=w':=by
 have l:=bounds_i64 j;have k:=bounds_i64 g;by_cases c:b<1
 ·have e:prb h i b=0:=by unfold prb;rw[qV (qX c)]
  rw[e];go_enter func263,ntmps263;go_wp2;go_ret;exact⟨rfl,rfl⟩
 ·by_cases d:i<0
  ·have e:prb h i b=0:=(by unfold prb;rw[qV (qY d)]);rw[e];go_enter func263,ntmps263;go_wp2;go_ret;exact⟨rfl,rfl⟩
  ·obtain⟨n,rfl⟩:∃n:Nat,i=n:=⟨i.toNat,by omega⟩
   obtain⟨m,rfl⟩:∃m:Nat,b=m:=⟨b.toNat,by omega⟩
   have f:=qQ fun w=>Le h w a
   have o:=Fj a;have hw:=qQ (MQ h n m (dU h) a (by omega) (by omega) (by omega) rfl);generalize dU h=s at*;generalize prb h (n:Nat) (m:Nat)=r at*;have p:((m:Int)==0)=false:=(by simp;omega);go_enter func263,ntmps263;go_wp2_with fail;refine(f.out _).mono ?_;rintro e w'⟨rfl,rfl⟩;go_wp2;go_ret;refine⟨mY ?_,rfl⟩;exact hw.out
theorem MX(k:Nat)(w:World)(a:k<9223372036854775808):
  Calls prog 237 #[.int .i64 (k:Nat)] w fun e w'=>e = .returned (.int .u8 (2 ^ (k%8):Nat))/\w=w':=by
 go_enter func237,ntmps237;go_wp2;go_ret;refine⟨mY ?_,rfl⟩;have h:=XB (Nat.mod_lt k (by decide):k%8<8);have e:(2:Int) ^ (k%8)=((2 ^ (k%8):Nat):Int):=by rw[Int.natCast_pow];rfl
 rw[e];generalize 2 ^ (k%8)=x at*;omega
theorem MZ{m:Nat}:∀wx:World,(convert 109 9 (.slice (some ⟨wx.heap.size,0,none⟩) 1 1)).run prog (wx.alloc (.cells #[.int .u8 ((m:Int)%256)] 5)) = .ok (.string (bs [UInt8.ofNat m])) (wx.alloc (.cells #[.int .u8 ((m:Int)%256)] 5)):=fun wx=>by
 refine run_convert_bytes_back (P:=prog) _ 109 9 5 ⟨wx.heap.size,0,none⟩ 1 [UInt8.ofNat m] Tryz.underlying109 Tryz.underlying5 Tryz.underlying9 (fun j a=>?_);obtain rfl:j=0:=by simpa using a
 have e:(⟨wx.heap.size,0,none⟩:Addr).add 0=⟨wx.heap.size,0,none⟩:=by simp[Addr.add]
 rw[e,World.cell?_alloc_at _ _ _ _ rfl];simp
theorem XP(n N:Nat)(w:World)(j:1<=N)(l:N<=8)(u:n<18446744073709551616):
  Calls prog 132 #[.int .u64 (n:Nat),.int .i64 (N:Nat)] w fun e w'=>e = .returned (.string (bs (be N n)))/\Below w.heap.size w w':=by
 go_enter func132,ntmps132;go_wp2;go_loopw [0,5,6] (fun m s i wr=>∃k:Nat,k<=N/\i = .int .i64 k/\m = .int .u64 (n/256 ^ k:Nat)/\s = .string (bs (be k n))/\Below w.heap.size w wr) (fun _ _ i _=>N-(intOf i).toNat)
 case atStart=>exact⟨0,qF _,rfl,by simp,rfl,Below.refl _ _⟩
 case round =>
  obtain⟨k,q,rfl,rfl,rfl,c⟩:=hrel;by_cases r:k<N
  ·obtain⟨m,a⟩:∃m,n/256 ^ k=m:=⟨_,rfl⟩
   have d:UInt8.ofNat m::be k n=be (k+1) n:=(by rw[be,a]);have f:n/256 ^ (k+1)=m/256:=(by rw[Nat.pow_succ,<-Nat.div_div_eq_div_mul,a]);have p:=MZ (m:=m)
   have o:∀b:World,(Op.stringOp .add (bs [UInt8.ofNat m]) (bs (be k n))).run prog b = .ok (.string (bs (be (k+1) n))) b:=fun b=>by
    have h:=run_string_add_sum (P:=prog) (w:=b) (bs [UInt8.ofNat m]) (bs (be k n)) (by rw[ji,ji,jq];simp;omega);rw[uh,List.singleton_append,d]at h;exact h
   have t:m<=18446744073709551615:=(by rw[<-a];exact qO (Nat.div_le_self _ _) (by omega));rw[a];have g:=qQ f;clear a f d;go_wp2;go_roundw
   case rel=>exact⟨k+1,by omega,by go_num,by rw[g.out];go_num,rfl,c.alloc c.size _⟩
   case measure=>simp[intOf];omega
  ·obtain rfl:k=N:=(by omega);go_wp2;go_ret;exact⟨rfl,c⟩
def dB(d:Nat->Value)(w:World)(v:Value)(l:List Nat):Prop :=
 (l=[]/\∃a c,v = .slice a 0 c) ∨
 (0<l.length/\∃b off c,v = .slice (some ⟨b,off,none⟩) l.length c/\l.length<=c/\b<w.heap.size/\∀i,i<l.length->w.cell? ⟨b,off+i,none⟩=some (d (l.getD i 0)))
def um(n:Nat):Value:=.int .u64 (n:Int)
theorem dB.xL{w:World}{base:Nat}{e:TypeId}{v:Value}{l:List Nat}(d:Nat->Value)(h:w.ownsRow base e 1 v l.length (l.map d)):dB d w v l:=by
 have b:=h;rcases h.2 with⟨a,j⟩|⟨g,f,p,a,q,k,o,r,s,t⟩
 ·exact qX ⟨List.length_eq_zero_iff.1 j,none,0,a⟩
 ·by_cases c:l=[]
  ·subst c;exact qX ⟨rfl,_,_,a⟩
  ·refine qY ⟨List.length_pos_iff.2 c,g,0,f,a,o, ?_,fun i m=>?_⟩
   ·obtain⟨n,_⟩:=qm.1 k;exact n
   ·rw[a]at b;rw[Nat.zero_add,b.cellAt i (by omega),qu,qz,qC m];rfl
theorem MJ{l:List Nat}(h:XD l)(k:Nat):l.getD k 0<18446744073709551616:=by
 by_cases a:k<l.length
 ·rw[qz,qC a];exact h _ (List.getElem_mem a)
 ·rw[qz,List.getElem?_eq_none (by omega)];exact(by decide:(0:Nat)<18446744073709551616)
theorem MK(l:List Nat)(k:Nat)(h:k<l.length):l.take (k+1)=l.take k++[l.getD k 0]:=by
 rw[List.take_add_one,qC h,qz,qC h];rfl
theorem MV{a b:Nat}(d:a<18446744073709551616)(f:b<18446744073709551616):(FloatKind.f64.format.order a b==some Ordering.lt)=(!vX a&&!vX b&&decide (sr a<sr b)):=by
 show(Ieee.double.order a b==some Ordering.lt)=_;rw[Kl d f];cases vX a<;>cases vX b<;>simp[compare,compareOfLessAndEq];by_cases h:sr a<sr b
 ·simp[h]
 ·by_cases c:sr a=sr b<;>simp[h,c]
theorem VL{a b:Nat}(d:a<18446744073709551616)(f:b<18446744073709551616):(FloatKind.f64.format.order a b==some Ordering.eq)=(!vX a&&!vX b&&decide (sr a=sr b)):=by
 show(Ieee.double.order a b==some Ordering.eq)=_;rw[Kl d f];cases vX a<;>cases vX b<;>simp[compare,compareOfLessAndEq];by_cases h:sr a<sr b
 ·have:¬sr a=sr b:=by omega
  simp[h,this]
 ·by_cases c:sr a=sr b<;>simp[c,h]
theorem MY{a:Nat}(b:a<18446744073709551616):(FloatKind.f64.format.order a a==some Ordering.eq) = !vX a:=by
 rw[VL b b];cases vX a<;>simp
theorem MU{a b:Nat}:(FloatKind.f64.format.order a b != some Ordering.eq) = !(FloatKind.f64.format.order a b==some Ordering.eq):=rfl
theorem MG{a b:Nat}(d:a<18446744073709551616)(f:b<18446744073709551616):(FloatKind.f64.format.order a b==some Ordering.lt||FloatKind.f64.format.order a b==some Ordering.eq)=(!vX a&&!vX b&&decide (sr a<=sr b)):=by
 rw[MV d f,VL d f];cases vX a<;>cases vX b<;>simp;by_cases h:sr a<sr b
 ·simp[h,Int.le_of_lt h]
 ·by_cases c:sr a=sr b
  ·simp[c]
  ·have g:¬sr a<=sr b:=(by omega);simp[h,c,g]
theorem VM(b:Nat)(w:World)(a:b<18446744073709551616):
  Calls prog 232 #[.float .f64 b] w fun e w'=>e = .returned (.bool (vX b))/\w=w':=by
 have c:(FloatKind.f64.format.order b b != some Ordering.eq)=vX b:=by rw[MU,MY a];cases vX b<;>rfl
 generalize vX b=n at*;clear a;go_enter func232,ntmps232;go_wp2;go_ret;exact⟨rfl,rfl⟩
theorem MW{b:Nat}(a:b<18446744073709551616)(c:vX b=false)(k:Nat):
  (FloatKind.f64.format.order (hw k) b==some Ordering.lt||FloatKind.f64.format.order (hw k) b==some Ordering.eq)=decide ((hw k:Int)<=sr b):=by
 rw[MG (Hp k) a,c,Hs,Hr];rfl
theorem MA(t:TypeId)(k:Nat)(a:k<17)(w:World):(binOp .quo t (.float .f64 (hw k)) (.float .f64 4611686018427387904)).run prog w = .ok (.float .f64 (hw (k+1))) w :=
 run_float_arith w .quo t .f64 _ _ _ (Ha k a)
theorem MB(b:Nat)(w:World)(i:b<18446744073709551616)(m:vX b=false):
  Calls prog 202 #[.float .f64 b] w fun e w'=>∃n:Nat,e = .returned (.int .i64 n)/\Kn (sr b) n/\w=w':=by
 have t:=qQ (fun w=>VM b w i);have v:=qQ (MW i m);rw[m]at t;clear i m;generalize sr b=s at*;go_enter func202,ntmps202;go_wp2_with fail;go_step3;go_wp2_with fail;refine(t.out _).mono ?_;rintro e w'⟨rfl,rfl⟩;go_wp2;go_step3;go_wp2;go_loopw [3,4] (fun p h wr=>∃k:Nat,1<=k/\k<=16/\p = .int .i64 k/\h = .float .f64 (hw k)/\(∀j,1<=j->j<k->s<hw j)/\wr=w) (fun p _ _=>17-(intOf p).toNat)
 case atStart=>exact⟨1,by omega,by omega,rfl,by rw[Hn],fun j _ _=>by omega,rfl⟩
 case round =>
  obtain⟨k,A,B,rfl,rfl,g,rfl⟩:=hrel;by_cases C:k<16
  ·have I:(k:Int)<16:=(by omega);have q:=v.out k;have H:=qQ (MA 24 k (by omega) wr);have f:=qQ g;clear g;obtain⟨d,l⟩:∃d,decide ((hw k:Int)<=s)=d:=⟨_,rfl⟩
   rw[l]at q;have r:=qQ l;clear l;have u:=H.out;cases d
   ·have G:=qQ (show hw (k+1)=hw (k+1) from rfl);obtain⟨x,a⟩:∃x,x=hw k:=⟨_,rfl⟩
    obtain⟨y,o⟩:∃y,y=hw (k+1):=⟨_,rfl⟩
    rw[<-a,<-o]at u;rw[<-a]at q ⊢;have X:=qQ a;have Y:=qQ o;clear a o H G;go_wp2;go_roundw
    case rel =>
     refine⟨k+1,by omega,by omega,by go_num,by rw[Y.out],fun j z F=>?_,by trivial⟩;rcases Nat.lt_or_ge j k with c|c
     ·exact f.out j z c
     ·obtain rfl:j=k:=(by omega);have:=of_decide_eq_false r.out;omega
    case measure=>simp[intOf];omega
   ·obtain⟨x,a⟩:∃x,x=hw k:=⟨_,rfl⟩
    rw[<-a]at q ⊢;have X:=qQ a;clear u H a;go_wp2
    (try rw[Exit.noGoto_ret])
    go_ret;exact⟨k,rfl,⟨A,B,f.out,qY (of_decide_eq_true r.out)⟩,rfl⟩
  ·obtain rfl:k=16:=(by omega);have f:=qQ g;clear g;generalize hw 16=x at*;go_wp2
   (try rw[Exit.noGoto_ret])
   go_ret;exact⟨16,rfl,⟨by omega,by omega,f.out,qX rfl⟩,rfl⟩
theorem MC(b:Nat)(w:World)(c:b<18446744073709551616)(d:vX b=true):
  Calls prog 202 #[.float .f64 b] w fun e w'=>e = .returned (.int .i64 4)/\w=w':=by
 have a:=qQ (fun w=>VM b w c);rw[d]at a;clear c d;go_enter func202,ntmps202;go_wp2_with fail;go_step3;go_wp2_with fail;refine(a.out _).mono ?_;rintro e w'⟨rfl,rfl⟩;go_wp2
 (try rw[Exit.noGoto_ret])
 go_ret;exact⟨rfl,rfl⟩
theorem MD(b:Nat)(w:World)(c:b<18446744073709551616):
  Calls prog 202 #[.float .f64 b] w fun e w'=>∃n:Nat,e = .returned (.int .i64 n)/\pD b n/\w=w':=by
 unfold pD;cases d:vX b
 ·refine(MB b w c d).mono ?_;rintro e w'⟨n,a,h,hw⟩;exact⟨n,a,by rw[qZ (by decide)];exact h,hw⟩
 ·refine(MC b w c d).mono ?_;rintro e w'⟨a,hw⟩;exact⟨4,a,by rw[qV rfl],hw⟩
theorem ME(n:Int)(w:World):
  Calls prog 233 #[.int .i64 n,.int .i64 0,.int .i64 10000] w fun e w'=>e = .returned (.int .i64 (cN n:Nat))/\w=w':=by
 have a:(n<0/\(cN n:Int)=0)∨(0<=n/\10000<n/\(cN n:Int)=10000)∨(0<=n/\n<=10000/\(cN n:Int)=n):=by unfold cN;split;omega;split<;>omega
 rcases a with⟨c1,e⟩|⟨c1,c2,e⟩|⟨c1,c2,e⟩
 all_goals
  rw[e];clear e;go_enter func233,ntmps233;go_wp2;go_ret;exact⟨rfl,rfl⟩
theorem MF(n:Int)(w:World):
  Calls prog 233 #[.int .i64 n,.int .i64 1,.int .i64 16] w fun e w'=>e = .returned (.int .i64 (cK n:Nat))/\w=w':=by
 have a:(n<1/\(cK n:Int)=1)∨(1<=n/\16<n/\(cK n:Int)=16)∨(1<=n/\n<=16/\(cK n:Int)=n):=by unfold cK;split;omega;split<;>omega
 rcases a with⟨c1,e⟩|⟨c1,c2,e⟩|⟨c1,c2,e⟩
 all_goals
  rw[e];clear e;go_enter func233,ntmps233;go_wp2;go_ret;exact⟨rfl,rfl⟩
theorem MH(n k:Int)(w:World):
  Calls prog 203 #[.int .i64 n,.int .i64 k] w fun e w'=>e = .returned (.int .i64 (cg n k:Nat))/\w=w':=by
 have f:=qQ (fun w=>ME n w);have g:=qQ (fun w=>MF k w);have c:=He n;have d:=Kp k;unfold cg;generalize cN n=a at*;generalize cK k=b at*;have j:=Hi c d;have l:(a:Int)*(b:Int)=((a*b:Nat):Int):=by simp
 have i:(480<a*b*3/2/\nI a b=(a*b*3/2+479)/480)∨(a*b*3/2<=480/\nI a b=1):=by unfold nI sP;split<;>omega
 generalize nI a b=r at*;generalize a*b=p at*;have m:(p:Int)<=160000:=by omega
 have o:(p:Int)*3<=480000:=by omega
 have q:(0:Int)<=(p:Int)*3:=by omega
 rcases i with⟨c1,rfl⟩|⟨c1,rfl⟩
 all_goals
  go_enter func203,ntmps203;go_wp2_with fail;refine(f.out _).mono ?_;rintro e w'⟨rfl,rfl⟩;go_wp2_with fail;refine(g.out _).mono ?_;rintro e w'⟨rfl,rfl⟩;go_wp2;go_ret;exact⟨mY (by omega),rfl⟩
def uZ(s:Tw):Nat:=un (s.data.toList.take 2)
def v8(s:Tw):Bool:=decide (2<=s.size/\uZ s+2<=s.size)
def rdA(s:Tw):Tw:=if v8 s=true then s.extract 2 (2+uZ s) else ByteArray.empty
def rdB(s:Tw):Tw:=if v8 s=true then s.extract (2+uZ s) s.size else ByteArray.empty
theorem MI(s:Tw):jR (s.extract 0 2)=uZ s:=by
 unfold jR uZ;have e:(s.extract 0 2).data.toList=s.data.toList.take 2:=by simp
 rw[e,qd (by rw[qS];omega)]
theorem VN(s:Tw):uZ s<=65535:=by
 have h:=fI (s.data.toList.take 2);have a:(s.data.toList.take 2).length<=2:=by rw[qS];omega
 have b:256 ^ (s.data.toList.take 2).length<=256 ^ 2:=Nat.pow_le_pow_right (by decide) a;unfold uZ;omega
theorem VO{s:Tw}(h:¬(2<=s.size/\uZ s+2<=s.size)):v8 s=false/\rdA s=ByteArray.empty/\rdB s=ByteArray.empty:=by
 have e:v8 s=false:=by simpa[v8] using h
 simp[rdA,rdB,e]
theorem XR{s:Tw}(h:2<=s.size/\uZ s+2<=s.size):v8 s=true/\rdA s=s.extract 2 (2+uZ s)/\rdB s=s.extract (2+uZ s) s.size:=by
 have e:v8 s=true:=by simpa[v8] using h
 simp[rdA,rdB,e]
theorem VP(s:Tw)(w:World):Calls prog 84 #[.string (s.extract 0 2)] w fun e w'=>e = .returned (.int .u64 (uZ s:Nat))/\w=w':=by
 rw[<-MI];exact cA _ w (by unfold maxLen;rw[qT];omega)
theorem ML(s:Tw)(w:World)(c:s.size<=maxLen)(d:2<=s.size)(L:Nat)(f:L<=65535)(h:L+2<=s.size)
  (a:∀w:World,Calls prog 84 #[.string (s.extract 0 2)] w fun e w'=>e = .returned (.int .u64 (L:Nat))/\w=w'):
  Calls prog 230 #[.string s] w fun e w'=>e = .returned (.tuple #[.string (s.extract 2 (2+L)),.string (s.extract (2+L) s.size),.bool true])/\Below w.heap.size w w':=by
 unfold maxLen at c;have b:=qQ a;clear a;go_enter func230,ntmps230;go_wp2_with (go_at_call 84;refine(b.out _).mono ?_;rintro e w'⟨rfl,rfl⟩);go_quiet (fail);go_wp2;go_ret3;exact⟨rfl,vo (Below.refl _ _) _⟩
theorem MM(s:Tw)(w:World)(c:s.size<=maxLen)(d:2<=s.size)(L:Nat)(f:L<=65535)(h:s.size<L+2)
  (a:∀w:World,Calls prog 84 #[.string (s.extract 0 2)] w fun e w'=>e = .returned (.int .u64 (L:Nat))/\w=w'):
  Calls prog 230 #[.string s] w fun e w'=>e = .returned (.tuple #[.string ByteArray.empty,.string ByteArray.empty,.bool false])/\Below w.heap.size w w':=by
 unfold maxLen at c;have b:=qQ a;clear a;go_enter func230,ntmps230;go_wp2_with (go_at_call 84;refine(b.out _).mono ?_;rintro e w'⟨rfl,rfl⟩);go_ret3;exact⟨rfl,Below.refl _ _⟩
theorem mF(s:Tw)(w:World)(f:s.size<=maxLen):
  Calls prog 230 #[.string s] w fun e w'=>e = .returned (.tuple #[.string (rdA s),.string (rdB s),.bool (v8 s)])/\Below w.heap.size w w':=by
 by_cases d:2<=s.size
 ·by_cases h:uZ s+2<=s.size
  ·obtain⟨a,b,c⟩:=XR ⟨d,h⟩;rw[a,b,c];exact ML s w f d _ (VN s) h (VP s)
  ·obtain⟨a,b,c⟩:=VO (s:=s) (by omega);rw[a,b,c];exact MM s w f d _ (VN s) (by omega) (VP s)
 ·obtain⟨a,b,c⟩:=VO (s:=s) (by omega);rw[a,b,c];clear a b c;go_enter func230,ntmps230;go_wp2;go_ret3;exact⟨rfl,Below.refl _ _⟩
theorem MN(n:Nat)(w:World)(a:n<18446744073709551616):
  Calls prog 58 #[.int .u64 (n:Nat),.int .i64 2] w fun e w'=>e = .returned (.string (bs (be 2 n)))/\Below w.heap.size w w' :=
 gC n 2 w (by omega) (by omega) a
theorem MO(s:Tw)(h:s.size<=65535)(l:List UInt8)(a:l.length=2)(w:World):(Op.stringOp .add (bs l) s).run prog w = .ok (.string (bs l++s)) w :=
 run_string_add_sum (P:=prog) (w:=w) (bs l) s (by rw[ji,a];omega)
theorem VR(s:Tw)(w:World)(h:s.size<=65535):
  Calls prog 57 #[.string s] w fun e w'=>e = .returned (.string (bs (be 2 s.size)++s))/\Below w.heap.size w w':=by
 have a:=qQ (MN s.size w (by omega));have b:=MO s h (be 2 s.size) (jq _ _);go_enter func57,ntmps57;go_wp2_with (go_at_call 58;refine a.out.mono ?_;rintro e w'⟨rfl,c⟩);go_ret;exact⟨rfl,‹Below _ _ _›⟩
def chk(t d:Tw):Int:=if t.size=0 then 2 else if 16<t.size∨200<d.size then 3 else 0
theorem MP{t d:Tw}(h:t.size=0):chk t d=2:=by unfold chk;rw[qV h]
theorem VS{t d:Tw}(a:¬t.size=0)(h:16<t.size∨200<d.size):chk t d=3:=by unfold chk;rw[qZ a,qV h]
theorem MR{t d:Tw}(a:¬t.size=0)(h:¬(16<t.size∨200<d.size)):chk t d=0:=by unfold chk;rw[qZ a,qZ h]
theorem pO{t d:Tw}:chk t d=0↔(1<=t.size/\t.size<=16/\d.size<=200):=by
 unfold chk;by_cases a:t.size=0
 ·rw[qV a];omega
 ·rw[qZ a];by_cases h:16<t.size∨200<d.size
  ·rw[qV h];omega
  ·rw[qZ h];omega
theorem VT(t d:Tw):chk t d=0∨chk t d=2∨chk t d=3:=by
 unfold chk;by_cases a:t.size=0
 ·rw[qV a];omega
 ·rw[qZ a];by_cases h:16<t.size∨200<d.size
  ·rw[qV h];omega
  ·rw[qZ h];omega
def evB(t d:Tw)(b:Nat):Tw:=bs (be 2 t.size)++t++(bs (be 2 d.size)++d)++bs (be 8 b)
theorem V0(t d:Tw)(b:Nat):(evB t d b).size=t.size+d.size+12:=by
 unfold evB;simp only[ByteArray.size_append,ji,jq];omega
def erL(s:Tw):Tw:=rdB (rdB s)
def yN(s:Tw):Bool:=decide (8<=(erL s).size/\chk (rdA s) (rdA (rdB s))=0)
def erT(s:Tw):Tw:=if yN s=true then rdA s else ByteArray.empty
def erD(s:Tw):Tw:=if yN s=true then rdA (rdB s) else ByteArray.empty
def erW(s:Tw):Nat:=if yN s=true then jR (erL s) else 0
def erR(s:Tw):Tw:=if yN s=true then(erL s).extract 8 (erL s).size else ByteArray.empty
theorem sh{s:Tw}(h:yN s=true):erT s=rdA s/\erD s=rdA (rdB s)/\erW s=jR (erL s)/\erR s=(erL s).extract 8 (erL s).size:=by
 simp[erT,erD,erW,erR,h]
theorem XS{s:Tw}(h:yN s=false):erT s=ByteArray.empty/\erD s=ByteArray.empty/\erW s=0/\erR s=ByteArray.empty:=by
 simp[erT,erD,erW,erR,h]
theorem bW(s:Tw):(rdB s).size<=s.size:=by
 unfold rdB;by_cases h:v8 s=true
 ·rw[qV h,qT];omega
 ·rw[qZ h];exact qF _
theorem pP(s:Tw):(rdA s).size<=s.size:=by
 unfold rdA;by_cases h:v8 s=true
 ·rw[qV h,qT];omega
 ·rw[qZ h];exact qF _
theorem MS(s:Tw):erW s<18446744073709551616:=by
 unfold erW;by_cases h:yN s=true
 ·rw[qV h];exact pW _
 ·rw[qZ h];decide
theorem V4(s:Tw)(h:0<(rdB s).size):v8 s=true:=by
 cases e:v8 s with
 | true=>rfl
 | false =>
   unfold rdB at h;rw[e]at h;simp at h
theorem MT(s:Tw)(h:0<(erL s).size):v8 s=true/\v8 (rdB s)=true:=by
 have a:=V4 (rdB s) h;refine⟨V4 s ?_,a⟩;have:(rdB (rdB s)).size<=(rdB s).size:=bW _;unfold erL at h;omega
theorem fT(s:Tw):s.data.toList.length=s.size:=Array.length_toList
theorem M4{t:Tw}{n:Nat}{r:List UInt8}(a:n<=65535)(h:t.data.toList=be 2 n++r):uZ t=n:=by
 unfold uZ;rw[h,List.take_append_of_le_length (by rw[jq];omega),qd (by rw[jq];omega),cj];omega
theorem XT{t r:Tw}(h:t.size<=65535):rdA (bs (be 2 t.size)++t++r)=t/\rdB (bs (be 2 t.size)++t++r)=r/\v8 (bs (be 2 t.size)++t++r)=true:=by
 have a:(bs (be 2 t.size)++t++r).data.toList=be 2 t.size++(t.data.toList++r.data.toList):=by
  simp only[ByteArray.data_append,Array.toList_append,List.append_assoc,bs]
 have b:uZ (bs (be 2 t.size)++t++r)=t.size:=M4 h a;have g:(bs (be 2 t.size)++t++r).size=t.size+2+r.size:=by rw[qy,qy,ji,jq];omega
 obtain⟨c,d,f⟩:=XR (s:=bs (be 2 t.size)++t++r) ⟨by omega,by omega⟩;refine⟨?_, ?_,c⟩
 ·rw[d,b];apply ByteArray.ext;apply Array.toList_inj.1;rw[ByteArray.data_extract,Array.toList_extract,a,List.extract,List.drop_left' (jq 2 _),List.take_left' (by rw[fT];omega)]
 ·rw[f,b];apply ByteArray.ext;apply Array.toList_inj.1;rw[ByteArray.data_extract,Array.toList_extract,a,g,List.extract,<-List.drop_drop,List.drop_left' (jq 2 _),List.drop_left' (fT t),qd (by rw[fT];omega)]
theorem V5{s:Tw}(h:v8 s=true):bs (be 2 (rdA s).size)++rdA s++rdB s=s:=by
 have b:2<=s.size/\uZ s+2<=s.size:=by simpa[v8] using h
 obtain⟨_,a,c⟩:=XR b;have g:(rdA s).size=uZ s:=by rw[a,qT];omega
 rw[g,a,c];apply ByteArray.ext;apply Array.toList_inj.1;have f:s.data.toList.length=s.size:=fT s
 have d:be 2 (uZ s)=s.data.toList.take 2:=by
  have:=mG (s.data.toList.take 2);rw[qS,f,Nat.min_eq_left b.1]at this;exact this
 simp only[ByteArray.data_append,Array.toList_append,ByteArray.data_extract,Array.toList_extract,List.extract,bs,d];rw[Nat.add_sub_cancel_left,qb,qd (l:=List.drop (2+uZ s) s.data.toList) (by rw[List.length_drop];omega),<-List.drop_drop,ql,ql]
theorem M5{L:Tw}(h:8<=L.size):bs (be 8 (jR L))++L.extract 8 L.size=L:=by
 apply ByteArray.ext;apply Array.toList_inj.1;have b:L.data.toList.length=L.size:=fT L
 have a:be 8 (jR L)=L.data.toList.take 8:=by
  have:=mG (L.data.toList.take 8);rw[qS,b,Nat.min_eq_left h]at this;exact this
 simp only[ByteArray.data_append,Array.toList_append,ByteArray.data_extract,Array.toList_extract,List.extract,bs,a];rw[qd (l:=List.drop 8 L.data.toList) (by rw[List.length_drop];omega),ql]
theorem V6{b:Nat}(d:b<18446744073709551616)(r:Tw):jR (bs (be 8 b)++r)=b/\(bs (be 8 b)++r).extract 8 (bs (be 8 b)++r).size=r:=by
 have a:(bs (be 8 b)++r).data.toList=be 8 b++r.data.toList:=by simp only[ByteArray.data_append,Array.toList_append,bs]
 have c:(bs (be 8 b)++r).size=8+r.size:=by rw[qy,ji,jq]
 constructor
 ·unfold jR;rw[a,List.take_left' (jq 8 b),cj];exact Nat.mod_eq_of_lt (by omega)
 ·apply ByteArray.ext;apply Array.toList_inj.1;rw[ByteArray.data_extract,Array.toList_extract,a,c,List.extract,List.drop_left' (jq 8 b),qd (by rw[fT];omega)]
theorem M6(t d:Tw)(b:Nat)(r:Tw)(i:chk t d=0)(n:b<18446744073709551616):
  yN (evB t d b++r)=true/\erT (evB t d b++r)=t/\erD (evB t d b++r)=d/\erW (evB t d b++r)=b/\erR (evB t d b++r)=r:=by
 have y:=pO.1 i;have e:evB t d b++r=bs (be 2 t.size)++t++(bs (be 2 d.size)++d++(bs (be 8 b)++r)):=by unfold evB;simp only[ByteArray.append_assoc]
 obtain⟨f,a,u⟩:=XT (t:=t) (r:=bs (be 2 d.size)++d++(bs (be 8 b)++r)) (by omega);obtain⟨g,k,v⟩:=XT (t:=d) (r:=bs (be 8 b)++r) (by omega);obtain⟨l,m⟩:=V6 n r;rw[e];have c:erL (bs (be 2 t.size)++t++(bs (be 2 d.size)++d++(bs (be 8 b)++r)))=bs (be 8 b)++r:=by unfold erL;rw[a,k]
 have j:yN (bs (be 2 t.size)++t++(bs (be 2 d.size)++d++(bs (be 8 b)++r)))=true:=by
  unfold yN;rw[c,f,a,g,i,qy,ji,jq];simp
 obtain⟨o,p,q,s⟩:=sh j;refine⟨j, ?_, ?_, ?_, ?_⟩
 ·rw[o,f]
 ·rw[p,a,g]
 ·rw[q,c,l]
 ·rw[s,c,m]
theorem M7{s:Tw}(h:yN s=true):chk (erT s) (erD s)=0/\evB (erT s) (erD s) (erW s)++erR s=s:=by
 obtain⟨b,c,i,j⟩:=sh h;have a:8<=(erL s).size/\chk (rdA s) (rdA (rdB s))=0:=by simpa[yN] using h
 obtain⟨f,g⟩:=MT s (by omega);refine⟨by rw[b,c];exact a.2, ?_⟩;rw[b,c,i,j];have k:=V5 f;have l:=V5 g;have m:=M5 a.1;have e:evB (rdA s) (rdA (rdB s)) (jR (erL s))++(erL s).extract 8 (erL s).size=bs (be 2 (rdA s).size)++rdA s++(bs (be 2 (rdA (rdB s)).size)++rdA (rdB s)++(bs (be 8 (jR (erL s)))++(erL s).extract 8 (erL s).size)):=by unfold evB;simp only[ByteArray.append_assoc]
 rw[e,m];have d:erL s=rdB (rdB s):=rfl;rw[d,l,k]
end
end Go.Proofs.YtokbfellcadkpaaGreat

import Derived.Test.YthejglbnkmimjaaGreatQp01
import Derived.Test.YthejglbnkmimjaaGreatQp02
import Derived.Deep.DeepCutAuto
import Derived.Deep.RegionHeld3
import Derived.Deep.RegionLaw
import Derived.Deep.CutBlock
import Derived.Deep.WholeRow
set_option linter.unusedVariables false
set_option maxRecDepth 100000
set_option maxHeartbeats 9000000
namespace Go.Proofs.YthejglbnkmimjaaGreat
open Proofs.Tryz
section
open Go.RowKit
def sq(l:List Int):List Value:=l.map (Value.int .i64)
theorem XA{l:List jI}{k:Nat}(h:k<l.length):∃f,l[k]? = some f:=⟨l[k],qD h⟩
theorem Hy{l:List jI}{n:Tw}{k:Nat}{f:jI}(h:l[k]? = some f)(a:f.name=n):j8 l n<=k:=by
 unfold j8;have b:k<l.length:=(qO.1 h).1;rcases qh k (l.findIdx (fun f=>decide (f.name=n))) with c|c
 ·have:=List.not_of_lt_findIdx c;rw[qD b]at h;have e:l[k]=f:=by simpa using h
  rw[e]at this;simp[a]at this
 ·exact c
theorem mS{l:List jI}{n:Tw}(h:j8 l n<l.length):∃f,l[j8 l n]? = some f/\f.name=n:=by
 have a:l.findIdx (fun f=>decide (f.name=n))<l.length:=h;have:=List.findIdx_getElem (w:=a);exact⟨l[j8 l n],qD h,of_decide_eq_true this⟩
theorem sz(l:List jI)(k:Nat)(h:jI->jI):(kN l k h).length=l.length:=by unfold kN;simp
def pL(w:World)(v:Value)(l:List Int):Prop :=
 (l=[]/\∃a c,v=.slice a 0 c)∨∃b off d cs f,v=.slice (some ⟨b,off,none⟩) l.length d/\l.length<=d/\d<=maxLen/\w.heap[b]? = some (.cells cs 3 f)/\∀i x,l[i]? = some x->cs[off+i]? = some (.int .i64 x)
theorem pL.zm{w:World}{base:Nat}{v:Value}{l:List Int}(h:w.ownsRow base 3 1 v l.length (sq l)):pL w v l:=by
 rcases h.2 with⟨rfl,e⟩|⟨b,c,cs,rfl,_,d,f,g,_,j⟩
 ·exact qX ⟨List.eq_nil_of_length_eq_zero e,none,0,rfl⟩
 ·refine qY ⟨b,0,c,cs,(0,0),rfl,f,g,d,fun i x a=>?_⟩;have k:i<l.length:=(qO.1 a).1;have e:(sq l)[i]? = some (.int .i64 x):=by unfold sq;rw[qu,a];rfl
  rw[<-j,List.getElem?_take,qV (by omega)]at e;simpa using e
theorem Kh(l:List jI)(k j:Nat)(h:jI->jI):(kN l k h)[j]? = if j=k then(l[j]?).map h else l[j]? := by
 unfold kN;rw[List.getElem?_modify];by_cases e:j=k
 ·subst e;simp
 ·rw[qZ e];have a:¬k=j:=fun x=>e x.symm
  cases l[j]?<;>simp[a]
theorem Hu{f:jI}{x:Int}(a:f.synced<=f.data.size):(gJ f x).data.size=lM f x:=by
 show(f.data.extract 0 (lM f x)).size=_;rw[qk];unfold lM;omega
structure sj(D:jD):Prop where
 x8:∀f∈D.l,f.synced<=f.data.size/\f.data.size<=1048576
 many:D.l.length<=400
 used:jM D.l<=1048576
 cap:D.cap<=1048576
 fails:D.fails<=1099511627777
theorem Kl{l:List jI}{n:Tw}(h:¬j8 l n<l.length):l[j8 l n]? = none:=xX (by omega)
theorem Hb(l:List jI)(n:Tw):yV l n<=l.length:=List.findIdx_le_length
theorem XB{l:List jI}{f:jI}(h:f∈l):f.data.size<=jM l:=by
 induction l with
 | nil=>cases h
 | cons x l a =>
   have e:jM (x::l)=x.data.size+jM l:=(by unfold jM;simp);rcases qL.1 h with rfl|h
   ·omega
   ·have:=a h;omega
theorem nz(l:List jI):∀(k:Nat) (f:jI) (h:jI->jI),l[k]? = some f->jM (kN l k h)+f.data.size=jM l+(h f).data.size:=by
 induction l with
 | nil=>intro k f h a;simp at a
 | cons x l c =>
   intro k f h a;have e:∀x l,jM (x::l)=x.data.size+jM l:=fun x l=>by unfold jM;simp
   cases k with
   | zero =>
     obtain rfl:x=f:=(by simpa using a);have b:kN (x::l) 0 h=h x::l:=rfl;rw[b,e,e];omega
   | succ k =>
     have b:kN (x::l) (k+1) h=x::kN l k h:=rfl;have:=c k f h (by simpa using a);rw[b,e,e];omega
theorem Km{l:List jI}{k:Nat}{h:jI->jI}{x:jI}(c:x∈kN l k h):x∈l∨∃f,l[k]? = some f/\x=h f:=by
 obtain⟨j,a⟩:=qd c;rw[Kh]at a;by_cases e:j=k
 ·subst e;rw[qV rfl]at a;cases b:l[j]? with
  | none=>rw[b]at a;cases a
  | some f=>rw[b]at a;exact qY ⟨f,rfl,by simpa using a.symm⟩
 ·rw[qZ e]at a;exact qX (qM a)
theorem sj.app{D:jD}(h:sj D){k:Nat}{f:jI}(d:D.l[k]? = some f)(s:Tw)(j:jM D.l+s.size<=D.cap):sj { D with l:=kN D.l k (fun f=>{ f with data:=f.data++s }) }:=by
 have n:jM (kN D.l k (fun f=>{ f with data:=f.data++s }))+f.data.size=jM D.l+(f.data++s).size:=nz D.l k f (fun f=>{ f with data:=f.data++s }) d;have p:(f.data++s).size=f.data.size+s.size:=qx;have i:=h.cap;have o:jM (kN D.l k (fun f=>{ f with data:=f.data++s }))=jM D.l+s.size:=by omega
 refine⟨fun x a=>?_,by show(kN _ _ _).length<=_;rw[sz];exact h.many,by show jM (kN _ _ _)<=_;omega,h.cap,h.fails⟩;have g:x.data.size<=jM (kN D.l k (fun f=>{ f with data:=f.data++s })):=XB a;refine⟨?_,by omega⟩;rcases Km a with a|⟨b,c,rfl⟩
 ·exact(h.x8 x a).1
 ·have:=(h.x8 b (qM c)).1;show b.synced<=(b.data++s).size;rw[qx];omega
theorem Hf{D:jD}{n:Tw}{a k:Int}(b:D.down=true):vE D n a k=(ByteArray.empty,61,D):=by
 unfold vE;rw[qV b]
def sk(D:jD):jD:={ D with count:=D.count+1 }
theorem Hh{D:jD}{n:Tw}{a k:Int}(b:D.down=false)(c:¬j8 D.l n<D.l.length):vE D n a k=(ByteArray.empty,4,sk D):=by
 unfold vE;rw[qZ (by rw[b];decide)];simp only[Kl c];rfl
theorem Hl{D:jD}{n:Tw}{a k:Int}{f:jI}(c:D.down=false)(d:D.l[j8 D.l n]? = some f)(b:a<0∨k<0∨(f.data.size:Int)<a∨(f.data.size:Int)-a<k):vE D n a k=(ByteArray.empty,2,sk D):=by
 unfold vE;rw[qZ (by rw[c];decide)];simp only[d];rw[qV b];rfl
theorem Hn{D:jD}{n:Tw}{a k:Int}{f:jI}(c:D.down=false)(d:D.l[j8 D.l n]? = some f)(b:¬(a<0∨k<0∨(f.data.size:Int)<a∨(f.data.size:Int)-a<k)):vE D n a k=(f.data.extract a.toNat (a.toNat+k.toNat),0,sk D):=by
 unfold vE;rw[qZ (by rw[c];decide)];simp only[d];rw[qZ b];rfl
theorem XC{P:Program}(x y:Int)(m:Nat)(h:(m:Int)=if y<x then y else x):∀a t w,(Builtin.min_ a t #[x,y]).run P w=.ok (.int .i64 (m:Nat)) w:=fun a t w=>by
 rw[run_min_int2,h]
theorem Hp{D:jD}{n:Tw}(a:D.down=false)(b:j8 D.l n<D.l.length):jg D n=if yQ D then(0, { cX D with l:=kx D.l (j8 D.l n) }) else(61,uf D D.keep):=by
 unfold jg yI;rw[qZ (by rw[a];decide),qV b];rfl
theorem Hr{D:jD}{n:Tw}(a:D.down=false)(b:¬j8 D.l n<D.l.length):jg D n=(4,D):=by
 unfold jg;rw[qZ (by rw[a];decide),qZ b]
theorem Hs{D:jD}{n:Tw}(a:D.down=true):jg D n=(61,D):=by
 unfold jg;rw[qV a]
theorem Ha{D:jD}{n:Tw}(a:D.down=true):jx D n=(61,D):=by
 unfold jx;rw[qV a]
theorem He{D:jD}{n:Tw}(a:D.down=false)(b:ks n=false):jx D n=(2,D):=by
 unfold jx;rw[qZ (by rw[a];decide),b,qV (by decide)]
theorem Hi{D:jD}{n:Tw}(a:D.down=false)(c:ks n=true)(b:j8 D.l n<D.l.length):jx D n=(62,D):=by
 unfold jx;rw[qZ (by rw[a];decide),c,qZ (by decide),qV b]
theorem Ho{D:jD}{n:Tw}(a:D.down=false)(d:ks n=true)(b:¬j8 D.l n<D.l.length)(c:400<=D.l.length):jx D n=(60,D):=by
 unfold jx;rw[qZ (by rw[a];decide),d,qZ (by decide),qZ b,qV c]
theorem Hw{D:jD}{n:Tw}(a:D.down=false)(d:ks n=true)(b:¬j8 D.l n<D.l.length)(c:¬400<=D.l.length):
  jx D n=if yQ D then(0, { cX D with l:=kL D.l ⟨n,ByteArray.empty,0⟩ }) else(61,uf D D.keep):=by
 unfold jx yI;rw[qZ (by rw[a];decide),d,qZ (by decide),qZ b,qZ c];rfl
theorem LQ{D:jD}{n b:Tw}(a:D.down=true):vI D n b=(61,D):=by
 unfold vI;rw[qV a]
theorem LX{D:jD}{n c:Tw}(a:D.down=false)(b:¬j8 D.l n<D.l.length):vI D n c=(4,D):=by
 unfold vI;rw[qZ (by rw[a];decide),qZ b]
theorem LZ{D:jD}{n a:Tw}(b:D.down=false)(c:j8 D.l n<D.l.length)(d:ks a=false):vI D n a=(2,D):=by
 unfold vI;rw[qZ (by rw[b];decide),qV c,d,qV (by decide)]
theorem LJ{D:jD}{n a:Tw}(b:D.down=false)(c:j8 D.l n<D.l.length)(d:ks a=true):
  vI D n a=if yQ D then(0, { cX D with l:=if n=a then D.l else fx D.l (j8 D.l n) a }) else(61,uf D D.keep):=by
 unfold vI yI;rw[qZ (by rw[b];decide),qV c,d,qZ (by decide)];rfl
def yT(m:List jI)(a:Tw):List jI:=if j8 m a<m.length then kx m (j8 m a) else m
theorem nj{l:List jI}{i:Nat}{f:jI}{a:Tw}(h:l[i]? = some f):fx l i a=kL (yT (kx l i) a) { f with name:=a }:=by
 unfold fx;rw[h];rfl
theorem pM{l:List jI}{i:Nat}(h:i<l.length):(kx l i).length+1=l.length:=by
 unfold kx;rw[qN,qT,xQ];omega
theorem Kn(m:List jI)(a:Tw):(yT m a).length<=m.length:=by
 unfold yT;split
 ·rename_i h;have:=pM h;omega
 ·exact qK _
def fj(c:Nat):jD:=⟨c,[],0,false,0,0,[]⟩
theorem pL.xE{w:World}{v:Value}{l:List Int}(h:pL w v l):kF w v l:=by
 rcases h with h|⟨b,off,d,cs,f,g,j,k,a,n⟩
 ·exact qX h
 ·refine qY ⟨b,off,d,g,j,k, ?_,fun i x o=>?_⟩
  ·rcases qh b w.1.size with c|c
   ·exact c
   ·rw[Array.getElem?_eq_none c]at a;cases a
  ·rw[cell_of_row w b (off+i) cs _ f a];exact n i x o
theorem kF.xC{F:List Nat}{w w':World}{v:Value}{l:List Int}(h:kF w v l)(c:jH F w w')(hF:∀b,v.ownBlock=some b->b ∉ F):kF w' v l:=by
 rcases h with h|⟨b,off,d,rfl,f,g,a,j⟩
 ·exact qX h
 ·exact qY ⟨b,off,d,rfl,f,g,qS a c.size,fun i x k=>(c.cell (p:=⟨b,off+i,none⟩) a (hF b rfl)).trans (j i x k)⟩
structure y8(D:jD):Prop where
 x8:∀f∈D.l,f.synced<=f.data.size/\f.data.size<=1048576
 many:D.l.length<=400
 used:jM D.l<=1048576
 cap:D.cap<=1048576
abbrev jR:= World->Nat->Nat->List Nat->jD->Prop
abbrev ptr(g:Nat):Value:=.pointer (some ⟨g,0,none⟩)
def yY(At:jR)(base g:Nat)(F:List Nat)(w:World)(v:Value)(E:jD)(e:Ending)(w':World):Prop :=
 ∃a,e=.returned v/\At w' base g a E/\(∀x∈a,x∈F∨w.1.size<=x)/\jH F w w'
def uR(w:World)(v:Value)(l:List Tw):Prop :=
 (l=[]/\∃a c,v=.slice a 0 c)∨∃b off d,v=.slice (some ⟨b,off,none⟩) l.length d/\l.length<=d/\d<=maxLen/\b<w.1.size/\∀i x,l[i]? = some x->w.cell? ⟨b,off+i,none⟩=some (.string x)
theorem uR.cell{w:World}{v:Value}{l:List Tw}(h:uR w v l):∃A off d,v=.slice A l.length d/\l.length<=maxLen/\∀i x,l[i]? = some x->∃b,A=some ⟨b,off,none⟩/\w.cell? ⟨b,off+i,none⟩=some (.string x):=by
 rcases h with⟨rfl,a,c,rfl⟩|⟨b,off,d,f,k,n,o,g⟩
 ·exact⟨a,0,c,rfl,qI _,fun i x h=>by simp at h⟩
 ·exact⟨some ⟨b,off,none⟩,off,d,f,by omega,fun i x j=>⟨b,rfl,g i x j⟩⟩
def Kp(At:jR)(base g:Nat)(F:List Nat)(w:World)(l:List Tw)(E:jD)(e:Ending)(w':World):Prop :=
 ∃a v,e=.returned v/\uR w' v l/\(∀b,v.ownBlock=some b->w.1.size<=b/\b ∉ a)/\At w' base g a E/\(∀x∈a,x∈F∨w.1.size<=x)/\jH F w w'
def Kr(At:jR)(base:Nat)(w:World)(c:Nat)(e:Ending)(w':World):Prop :=
 ∃g F,e=.returned (.tuple #[ptr g,.int .i64 0])/\At w' base g F (fj c)/\(∀x∈F,w.1.size<=x)/\jH [] w w'
abbrev err(n:Nat):Value:=.int .i64 (n:Nat)
structure jS(At:jR):Prop where
 xC:∀ {w w':World} {base g:Nat} {F G:List Nat} {D:jD},At w base g F D->jH G w w'->(∀x∈F,x ∉ G)->At w' base g F D
 low:∀ {w:World} {base g:Nat} {F:List Nat} {D:jD},At w base g F D->∀x∈F,base<=x/\x<w.1.size
 jB : ∀(base c:Nat) (w:World),base<=w.1.size->c<=1048576->Calls prog 24 #[c] w (Kr At base w c)
 create:∀ {w:World} {base g:Nat} {F:List Nat} {D:jD} (n:Tw),At w base g F D->y8 D->n.size<=maxLen ->
  Calls prog 201 #[ptr g,n] w (yY At base g F w (err (jx D n).1) (jx D n).2)
 append:∀ {w:World} {base g:Nat} {F:List Nat} {D:jD} (n s:Tw),At w base g F D->y8 D->s.size<=1099511627776->n.size<=maxLen ->
  Calls prog 203 #[ptr g,n,s] w (yY At base g F w (err (jc D n s).1) (jc D n s).2)
 read:∀ {w:World} {base g:Nat} {F:List Nat} {D:jD} (n:Tw) (a k:Int),At w base g F D->y8 D->D.count<=1099511627776->(Lit.int .i64 a).wf=true->(Lit.int .i64 k).wf=true->n.size<=maxLen ->
  Calls prog 130 #[ptr g,n,a,k] w (yY At base g F w (.tuple #[.string (vE D n a k).1,err (vE D n a k).2.1]) (vE D n a k).2.2)
 sync:∀ {w:World} {base g:Nat} {F:List Nat} {D:jD} (n:Tw),At w base g F D->y8 D->n.size<=maxLen ->
  Calls prog 160 #[ptr g,n] w (yY At base g F w (err (kZ D n).1) (kZ D n).2)
 rename:∀ {w:World} {base g:Nat} {F:List Nat} {D:jD} (n m:Tw),At w base g F D->y8 D->m.size<=maxLen->n.size<=maxLen ->
  Calls prog 245 #[ptr g,n,m] w (yY At base g F w (err (vI D n m).1) (vI D n m).2)
 delete:∀ {w:World} {base g:Nat} {F:List Nat} {D:jD} (n:Tw),At w base g F D->y8 D->n.size<=maxLen ->
  Calls prog 125 #[ptr g,n] w (yY At base g F w (err (jg D n).1) (jg D n).2)
 names:∀ {w:World} {base g:Nat} {F:List Nat} {D:jD},At w base g F D->y8 D ->
  Calls prog 98 #[ptr g] w (Kp At base g F w (D.l.map jI.name) D)
 free:∀ {w:World} {base g:Nat} {F:List Nat} {D:jD},At w base g F D->y8 D ->
  Calls prog 177 #[ptr g] w (yY At base g F w (.int .i64 ((D.cap:Int)-(jM D.l:Nat))) D)
 reads:∀ {w:World} {base g:Nat} {F:List Nat} {D:jD},At w base g F D->y8 D ->
  Calls prog 12 #[ptr g] w (yY At base g F w (.int .i64 (D.count:Nat)) D)
 jA:∀ {w:World} {base g:Nat} {F:List Nat} {D:jD},At w base g F D->Calls prog 151 #[ptr g] w (X0 (.bool (!D.down)) w)
 zi:∀ {w:World} {base g:Nat} {F:List Nat} {D:jD},At w base g F D->Calls prog 75 #[ptr g] w (X0 (.int .i64 (D.xB:Nat)) w)
 zI:∀ {w:World} {base g:Nat} {F:List Nat} {D:jD} (n:Tw),At w base g F D->y8 D->n.size<=maxLen->Calls prog 129 #[ptr g,n] w (X0 (.tuple #[.int .i64 ((jk D n).1:Nat),err (jk D n).2]) w)
 xH:∀ {w:World} {base g:Nat} {F:List Nat} {D:jD},At w base g F D->D.l.Pairwise (fun f g=>vD f.name g.name=true)/\∀f∈D.l,ks f.name=true
end
section
theorem ny(x:jI)(l:List jI):jM (x::l)=x.data.size+jM l:=by unfold jM;simp
theorem sy(a b:List jI):jM (a++b)=jM a+jM b:=by unfold jM;rw[List.map_append,List.sum_append]
theorem Ks(l:List jI)(k:Nat):jM l=jM (l.take k)+jM (l.drop k):=by rw[<-sy,qe]
theorem ng(l:List jI)(f:jI):jM (kL l f)=jM l+f.data.size:=by
 unfold kL;have h:=Ks l (yV l f.name);have a:jM [f]=f.data.size:=by rw[ny];rfl
 rw[sy,sy,a];omega
theorem pN(l:List jI)(f:jI):(kL l f).length=l.length+1:=by
 unfold kL;have:=Hb l f.name;rw[qN,qN,qT,xQ];show min _ _+1+_=_;omega
theorem mT{l:List jI}{f x:jI}(h:x∈kL l f):x∈l∨x=f:=by
 unfold kL at h;rw[qE,qE]at h;rcases h with(h|h)|h
 ·exact qX (List.mem_of_mem_take h)
 ·exact qY (by simpa using h)
 ·exact qX (List.mem_of_mem_drop h)
theorem nc{l:List jI}{i:Nat}{x:jI}(h:x∈kx l i):x∈l:=by
 unfold kx at h;rw[qE]at h;rcases h with h|h
 ·exact List.mem_of_mem_take h
 ·exact List.mem_of_mem_drop h
theorem pO{l:List jI}{i:Nat}{f:jI}(h:l[i]? = some f):jM (kx l i)+f.data.size=jM l:=by
 unfold kx;have b:=Ks l i;have a:=(qO.1 h).1
 have c:l.drop i=f::l.drop (i+1):=by
  rw[xJ a];congr 1;rw[qD a]at h;simpa using h
 rw[c,ny]at b;rw[sy];omega
theorem Ka{l:List jI}{n:Tw}{x:jI}(h:x∈yT l n):x∈l:=by
 unfold yT at h;split at h
 ·exact nc h
 ·exact h
theorem Ke(l:List jI)(n:Tw):jM (yT l n)<=jM l:=by
 unfold yT;split
 ·rename_i h;obtain⟨f,a⟩:=XA h;have:=pO a;omega
 ·exact qK _
theorem Ki(f:jI)(k:Int):(gJ f k).data.size<=f.data.size/\(f.synced<=f.data.size->(gJ f k).synced<=(gJ f k).data.size):=by
 refine⟨?_,fun h=>by rw[Hu h];exact qK _⟩;show(f.data.extract 0 (lM f k)).size<=_;rw[qk];omega
theorem Ko: ∀(l m:List jI),l.length=m.length->(∀(i:Nat) x y,l[i]? = some x->m[i]? = some y->x.data.size<=y.data.size)->jM l<=jM m
 | [],[],_,_=>qK _
 | x::l,y::m,h,hp=>by
   rw[ny,ny];have h1:=hp 0 x y rfl rfl;have f:=Ko l m (by simpa using h) (fun i a b c d=>hp (i+1) a b (by simpa using c) (by simpa using d));omega
 | [],_::_,h,_=>by simp at h
 | _::_,[],h,_=>by simp at h
theorem Kw(l:List jI)(keep:List Int)(j:Nat):(bN l keep)[j]? = (l[j]?).map (fun f=>gJ f (keep.getD j 0)):=by unfold bN;simp
end
structure WfP(D:jD):Prop where
 synced:∀f∈D.l,f.synced<=f.data.size
 used:jM D.l<=D.cap
 cap:D.cap<=1048576
 many:D.l.length<=400
theorem WfP.ok{D:jD}(h:WfP D):y8 D:=by
 have b:=h.used;have c:=h.cap;exact⟨fun f a=>⟨h.synced f a,by have:=XB a;omega⟩,h.many,by omega,h.cap⟩
theorem WfP.next{D:jD}(h:WfP D):WfP (cX D):=⟨h.synced,h.used,h.cap,h.many⟩
theorem WfP.sink{D:jD}(h:WfP D)(keep:List Int):WfP (uf D keep):=by
 have c:(bN D.l keep).length=D.l.length:=by unfold bN;simp
 refine⟨fun f g=>?_, ?_,h.cap,by show(bN D.l keep).length<=_;rw[c];exact h.many⟩
 ·obtain⟨j,a⟩:=qd (show f∈bN D.l keep from g);rw[Kw]at a;cases b:D.l[j]? with
  | none=>rw[b]at a;cases a
  | some x =>
    rw[b]at a;obtain rfl:gJ x (keep.getD j 0)=f:=(by simpa using a);exact(Ki x _).2 (h.synced x (qM b))
 ·refine qR (Ko _ _ c (fun i x y k n=>?_)) h.used;have d:(bN D.l keep)[i]? = some x:=k;rw[Kw,n]at d;obtain rfl:gJ y (keep.getD i 0)=x:=by simpa using d
  exact(Ki y _).1
theorem WfP.setF{D:jD}(h:WfP D){k:Nat}{f:jI}(c:D.l[k]? = some f)(g:jI->jI)(i:(g f).synced<=(g f).data.size)(j:jM D.l+(g f).data.size<=D.cap+f.data.size):WfP { D with l:=kN D.l k g }:=by
 have n:=nz D.l k f g c;refine⟨fun x a=>?_,by show jM (Go.Proofs.YthejglbnkmimjaaGreat.kN D.l k g)<=D.cap;omega,h.cap,by show(Go.Proofs.YthejglbnkmimjaaGreat.kN D.l k g).length<=_;rw[sz];exact h.many⟩;rcases Km a with a|⟨d,b,rfl⟩
 ·exact h.synced x a
 ·rw[c]at b;obtain rfl:f=d:=by simpa using b
  exact i
theorem WfP.done{D E:jD}(h:WfP D)(a:WfP E):WfP (yI D E).2:=by
 unfold yI;split
 ·exact⟨a.synced,a.used,a.cap,a.many⟩
 ·exact h.sink _
theorem LK{c:Nat}(a:c<=1048576):WfP (fj c):=⟨fun f b=>(by cases b),qI _,a,qI _⟩
section
variable {D:jD}(h:WfP D)
include h
theorem lT(n:Tw):WfP (jx D n).2:=by
 unfold jx;split
 ·exact h
 ·split
  ·exact h
  ·split
   ·exact h
   ·split
    ·exact h
    ·rename_i b;refine h.done ⟨fun f a=>?_, ?_,h.cap, ?_⟩
     ·rcases mT a with a|rfl
      ·exact h.synced f a
      ·exact qI _
     ·show jM (kL _ _)<=_;rw[ng];exact h.used
     ·show(kL _ _).length<=_;rw[pN];omega
theorem l5(n s:Tw):WfP (jc D n s).2:=by
 unfold jc;split
 ·exact h
 ·split
  ·rename_i c;split
   ·exact h
   ·rename_i d;obtain⟨f,b,_⟩:=mS c;have a:WfP (uP D n s):=h.setF b _ (by show f.synced<=(f.data++s).size;have:=h.synced f (qM b);rw[qx];omega) (by show jM D.l+(f.data++s).size<=_;rw[qx];omega);split
    ·exact a.next
    ·exact a.sink _
  ·exact h
theorem XD(n:Tw)(a k:Int):WfP (vE D n a k).2.2:=by
 have b:WfP { D with count:=D.count+1 }:=⟨h.synced,h.used,h.cap,h.many⟩
 unfold vE;split
 ·exact h
 ·dsimp only;split
  ·exact b
  ·split<;>exact b
theorem mq(n:Tw):WfP (kZ D n).2:=by
 unfold kZ;split
 ·exact h
 ·split
  ·rename_i a;obtain⟨f,b,_⟩:=mS a;exact h.done (h.setF b _ (qK _) (by have:=h.used;show jM D.l+f.data.size<=_;omega))
  ·exact h
theorem XE(n m:Tw):WfP (vI D n m).2:=by
 unfold vI;split
 ·exact h
 ·split
  ·rename_i c;split
   ·exact h
   ·obtain⟨f,a,_⟩:=mS c;refine h.done ?_;by_cases e:n=m
    ·rw[qV e];exact h
    ·rw[qZ e,nj a];have o:=pO a;have d:=Ke (kx D.l (j8 D.l n)) m;have j:=pM c;have i:=Kn (kx D.l (j8 D.l n)) m;have g:=h.used;have k:=h.many;refine⟨fun x b=>?_, ?_,h.cap, ?_⟩
     ·rcases mT b with b|rfl
      ·exact h.synced x (nc (Ka b))
      ·exact h.synced f (qM a)
     ·show jM (kL _ _)<=_;rw[ng];show _+f.data.size<=D.cap;omega
     ·show(kL _ _).length<=_;rw[pN];omega
  ·exact h
theorem dO(n:Tw):WfP (jg D n).2:=by
 unfold jg;split
 ·exact h
 ·split
  ·rename_i a;obtain⟨f,b,_⟩:=mS a;have j:=pO b;have g:=pM a;have d:=h.used;have i:=h.many;exact h.done ⟨fun x c=>h.synced x (nc c),by show jM (kx _ _)<=D.cap;omega,h.cap,by show(kx _ _).length<=_;omega⟩
  ·exact h
end
section
def jN(l:List jI)(n:Tw):Option jI:=l.find? (fun f=>decide (f.name=n))
theorem dP: ∀(l:List jI) (n:Tw),l[j8 l n]? = jN l n
 | [],n=>rfl
 | x::l,n=>by
   have ih:=dP l n;unfold j8 jN at*;rw[List.findIdx_cons,List.find?_cons];cases h:decide (x.name=n)
   ·simpa using ih
   ·rfl
theorem l6{l:List jI}{n:Tw}:j8 l n<l.length↔jN l n≠none:=by
 rw[<-dP];constructor
 ·intro h e;rw[qD h]at e;cases e
 ·intro h;rcases qh (j8 l n) l.length with c|c
  ·exact c
  ·exact absurd (xX c) h
theorem LV{l:List jI}{n:Tw}{f:jI}(h:jN l n=some f):f.name=n:=by
 have:=List.find?_some h;simpa using this
theorem LY{l:List jI}{n:Tw}{f:jI}(h:jN l n=some f):f∈l:=List.mem_of_find?_eq_some h
theorem fk{l:List jI}{n:Tw}:jN l n=none↔∀f∈l,f.name≠n:=by
 unfold jN;rw[List.find?_eq_none];simp
theorem nd(h:jI->jI)(c:∀f,(h f).name=f.name)(n m:Tw):∀l:List jI,jN (kN l (j8 l n) h) m=if m=n then(jN l n).map h else jN l m
 | []=>by
   unfold kN jN j8;simp
 | x::l=>by
   have ih:=nd h c n m l;by_cases e:x.name=n
   ·have b:j8 (x::l) n=0:=(by unfold j8;rw[List.findIdx_cons];simp[e]);rw[b];show jN (h x::l) m=_;unfold jN;rw[List.find?_cons,List.find?_cons,List.find?_cons,c,qB e];by_cases a:m=n
    ·rw[qV a,a,qB e];rfl
    ·rw[qZ a,qA (fun q=>a (by rw[<-e,q]))]
   ·have b:j8 (x::l) n=j8 l n+1:=(by unfold j8;rw[List.findIdx_cons];simp[e]);rw[b];show jN (x::kN l (j8 l n) h) m=_;unfold jN at ih ⊢;rw[List.find?_cons,List.find?_cons,List.find?_cons,qA e];by_cases a:x.name=m
    ·rw[qB a];by_cases q:m=n
     ·exact absurd (a.trans q) e
     ·rw[qZ q]
    ·rw[qA a];exact ih
theorem XF{l:List jI}{f:jI}(c:jN l f.name=none)(m:Tw):jN (kL l f) m=if m=f.name then some f else jN l m:=by
 have b:=fk.1 c;unfold kL;have d:l=l.take (yV l f.name)++l.drop (yV l f.name):=(qe _ _).symm;generalize yV l f.name=k at*;unfold jN;rw[List.find?_append,List.find?_append];by_cases e:m=f.name
 ·subst e;rw[qV rfl,List.find?_eq_none.2 (fun x g=>by simpa using b x (List.mem_of_mem_take g))];simp
 ·rw[qZ e];have a:[f].find? (fun f=>decide (f.name=m))=none:=by simp[Ne.symm e]
  rw[a]
  conv=>rhs;rw[d,List.find?_append]
  simp
theorem mz(h:jI->jI)(hh:∀f,(h f).name=f.name):∀(l:List jI) (k:Nat),(kN l k h).map jI.name=l.map jI.name
 | [],k=>by unfold kN;simp
 | x::l,0=>by show(h x::l).map _=_;simp[hh]
 | x::l,k+1=>by
   show(x::kN l k h).map _=_;rw[List.map_cons,List.map_cons,mz h hh l k]
theorem VQ{l:List jI}{n:Tw}(h:jI->jI)(a:∀f,(h f).data.size=f.data.size):jM (kN l (j8 l n) h)=jM l:=by
 rcases qh (j8 l n) l.length with c|c
 ·obtain⟨f,b⟩:=XA c;have:=nz l _ f h b;have:=a f;omega
 ·have e:kN l (j8 l n) h=l:=by
   unfold kN;exact List.modify_eq_self c
  rw[e]
theorem mj{D:jD}{n:Tw}{f:jI}(a:D.down=false)(h:jN D.l n=some f):jk D n=(f.data.size,0):=by
 unfold jk;rw[dP,h,qZ (by simp[a])]
theorem pP{D:jD}{n:Tw}{f:jI}{a k:Nat}(b:D.down=false)(h:jN D.l n=some f)(c:a+k<=f.data.size):vE D n (a:Nat) (k:Nat)=(f.data.extract a (a+k),0, { D with count:=D.count+1 }):=by
 unfold vE;dsimp only;rw[dP,h,qZ (by simp[b])];dsimp only;rw[qZ (by omega),qm,qm]
theorem XH{D:jD}{n:Tw}{f:jI}(a:D.down=false)(b:D.fails=0)(h:jN D.l n=some f):kZ D n=(0, { D with l:=kN D.l (j8 D.l n) (fun f=>{ f with synced:=f.data.size }) }):=by
 unfold kZ yI yQ;rw[qZ (by simp[a]),qV (l6.2 (by rw[h];simp)),b,qV (by decide)]
theorem XI{D:jD}{n s:Tw}{f:jI}(b:D.down=false)(a:D.fails=0)(h:jN D.l n=some f)(c:jM D.l+s.size<=D.cap):jc D n s=(0,uP D n s):=by
 unfold jc yQ;rw[qZ (by simp[b]),qV (l6.2 (by rw[h];simp)),qZ (by omega),a,qV (by decide)];unfold cX uP;simp[a]
theorem VX{D:jD}{n:Tw}(a:D.down=false)(b:D.fails=0)(c:ks n=true)(h:jN D.l n=none)(d:D.l.length<400):jx D n=(0, { D with l:=kL D.l ⟨n,ByteArray.empty,0⟩ }):=by
 unfold jx yI yQ;rw[qZ (by simp[a]),qZ (by simp[c]),qZ (fun q=>l6.1 q h),qZ (by omega),b,qV (by decide)]
theorem su{D:jD}{n:Tw}(a:D.down=false)(h:jN D.l n=none):jg D n=(4,D):=by
 unfold jg;rw[qZ (by simp[a]),qZ (fun q=>l6.1 q h)]
def ji(D:jD)(n s:Tw):Nat × jD :=
 if (jx D n).1≠0 then jx D n
 else if (jc (jx D n).2 n s).1≠0 then jc (jx D n).2 n s
 else kZ (jc (jx D n).2 n s).2 n
def rdW(D:jD)(n:Tw):Tw × Nat × jD:=if (jk D n).2=0 then vE D n 0 ((jk D n).1:Nat) else(ByteArray.empty,(jk D n).2,D)
theorem pR{D:jD}(h:WfP D)(n:Tw):WfP (rdW D n).2.2:=by
 unfold rdW;split
 ·exact XD h _ _ _
 ·exact h
theorem LU(D:jD)(n:Tw):(rdW D n).2.2.count<=D.count+1/\(rdW D n).2.2.cap=D.cap/\(rdW D n).2.2.l=D.l/\(rdW D n).2.2.down=D.down/\(rdW D n).2.2.fails=D.fails:=by
 unfold rdW vE;split
 ·split
  ·exact⟨Nat.le_succ _,rfl,rfl,rfl,rfl⟩
  ·dsimp only;split
   ·exact⟨qK _,rfl,rfl,rfl,rfl⟩
   ·split<;>exact⟨qK _,rfl,rfl,rfl,rfl⟩
 ·exact⟨Nat.le_succ _,rfl,rfl,rfl,rfl⟩
theorem nf{D:jD}(ok:WfP D)(n s:Tw):WfP (ji D n s).2:=by
 unfold ji;have a:=lT ok n;have b:=l5 a n s;split
 ·exact a
 ·split
  ·exact b
  ·exact mq b n
structure UpD(D:jD):Prop where
 down:D.down=false
 fails:D.fails=0
 wf:WfP D
theorem UpD.count{D:jD}(h:UpD D)(k:Nat):UpD { D with count:=k }:=⟨h.down,h.fails,⟨h.wf.synced,h.wf.used,h.wf.cap,h.wf.many⟩⟩
theorem LG{c:Nat}(a:c<=1048576):UpD (fj c):=⟨rfl,rfl,LK a⟩
theorem VZ(s:Tw):ByteArray.empty++s=s:=by
 apply qi;rw[ByteArray.data_append];apply Array.toList_inj.1;rw[Array.toList_append];rfl
structure LW(D E:jD)(n s:Tw):Prop where
 up:UpD E
 count:E.count=D.count
 cap:E.cap=D.cap
 used:jM E.l=jM D.l+s.size
 many:E.l.length=D.l.length+1
 file:∀m,jN E.l m=if m=n then some ⟨n,s,s.size⟩ else jN D.l m
theorem XL{D:jD}(h:UpD D)(F:D.l.length<400){n s:Tw}(G:ks n=true)(v:jN D.l n=none)(H:jM D.l+s.size<=D.cap):∃E,ji D n s=(0,E)/\LW D E n s:=by
 have c1:=VX h.down h.fails G v F;have j:=lT h.wf n;rw[c1]at j;have p:∀m,jN (kL D.l ⟨n,ByteArray.empty,0⟩) m=if m=n then some ⟨n,ByteArray.empty,0⟩ else jN D.l m:=fun m=>XF (f:=⟨n,ByteArray.empty,0⟩) v m
 have u1:jM (kL D.l ⟨n,ByteArray.empty,0⟩)=jM D.l:=by rw[ng];rfl
 obtain⟨a,r⟩:∃a:jD, { D with l:=kL D.l ⟨n,ByteArray.empty,0⟩ }=a:=⟨_,rfl⟩
 have c:a.down=false/\a.fails=0/\a.count=D.count/\a.cap=D.cap/\a.l=kL D.l ⟨n,ByteArray.empty,0⟩:=by rw[<-r];exact⟨h.down,h.fails,rfl,rfl,rfl⟩
 rw[r]at c1 j;have i:jN a.l n=some ⟨n,ByteArray.empty,0⟩:=by rw[c.2.2.2.2,p,qV rfl]
 have g:=XI (s:=s) c.1 c.2.1 i (by rw[c.2.2.2.2,u1,c.2.2.2.1];exact H);have k:=l5 j n s;rw[g]at k;obtain⟨b,u⟩:∃b,uP a n s=b:=⟨_,rfl⟩
 have d:b.down=false/\b.fails=0/\b.count=D.count/\b.cap=D.cap/\b.l=kN a.l (j8 a.l n) (fun f=>{ f with data:=f.data++s }):=by
  rw[<-u];exact⟨c.1,c.2.1,c.2.2.1,c.2.2.2.1,rfl⟩
 rw[u]at g k
 have q:∀m,jN b.l m=if m=n then some ⟨n,s,0⟩ else jN D.l m:=fun m=>by
  rw[d.2.2.2.2,nd _ (by intro f;rfl),i];by_cases e:m=n
  ·rw[qV e,qV e];show some (jI.mk n (ByteArray.empty++s) 0)=_;rw[VZ]
  ·rw[qZ e,qZ e,c.2.2.2.2,p,qZ e]
 have C:a.l[j8 a.l n]? = some ⟨n,ByteArray.empty,0⟩:=by rw[dP];exact i
 have u2:jM b.l=jM D.l+s.size:=by
  have:=nz a.l _ _ (fun f=>{ f with data:=f.data++s }) C;rw[<-d.2.2.2.2]at this;have I:jM a.l=jM D.l:=by rw[c.2.2.2.2];exact u1
  have A:(ByteArray.empty++s).size=s.size:=by rw[VZ]
  have B:(ByteArray.empty).size=0:=rfl;simp only[A,B]at this;omega
 have o:jN b.l n=some ⟨n,s,0⟩:=by rw[q,qV rfl]
 have y:=XH d.1 d.2.1 o;have z:=mq k n;rw[y]at z;refine⟨{ b with l:=kN b.l (j8 b.l n) (fun f=>{ f with synced:=f.data.size }) }, ?_,⟨d.1,d.2.1,z⟩,d.2.2.1,d.2.2.2.1, ?_, ?_,fun m=>?_⟩
 ·unfold ji;rw[c1];simp only;rw[qZ (by decide),g];simp only;rw[qZ (by decide)];exact y
 ·show jM (kN _ _ _)=_;rw[VQ _ (by intro f;rfl),u2]
 ·show(kN _ _ _).length=_;rw[sz,d.2.2.2.2,sz,c.2.2.2.2,pN]
 ·show jN (kN _ _ _) m=_;rw[nd _ (by intro f;rfl),o,q];by_cases e:m=n
  ·rw[qV e,qV e];rfl
  ·rw[qZ e,qZ e,qZ e]
theorem sg{D:jD}{n:Tw}{f:jI}(b:D.down=false)(h:jN D.l n=some f):rdW D n=(f.data,0, { D with count:=D.count+1 }):=by
 unfold rdW;rw[mj b h,qV rfl];have:=pP (a:=0) (k:=f.data.size) b h (by omega);rw[qa]at this
 have e:f.data.extract 0 f.data.size=f.data:=by
  apply qi;rw[ByteArray.data_extract];exact Array.extract_size
 rw[e]at this;exact this
theorem XM{D:jD}{n:Tw}(a:D.down=false)(h:jN D.l n=none):rdW D n=(ByteArray.empty,4,D):=by
 have e:jk D n=(0,4):=by
  unfold jk;rw[qZ (by simp[a]),dP,h]
 unfold rdW;rw[e,qZ (by decide)]
theorem sb{n m:Tw}(b:m≠n):∀l:List jI,jN (kx l (j8 l n)) m=jN l m
 | []=>rfl
 | x::l=>by
   have ih:=sb b l;by_cases e:x.name=n
   ·have a:j8 (x::l) n=0:=(by unfold j8;rw[List.findIdx_cons];simp[e]);rw[a];show jN l m=_;unfold jN;rw[List.find?_cons,qA (fun q=>b (by rw[<-e,q]))]
   ·have a:j8 (x::l) n=j8 l n+1:=(by unfold j8;rw[List.findIdx_cons];simp[e]);rw[a];show jN (x::kx l (j8 l n)) m=_;unfold jN at ih ⊢;rw[List.find?_cons,List.find?_cons,ih]
theorem sc{D:jD}(h:UpD D){n:Tw}{f:jI}(a:jN D.l n=some f):∃E,jg D n=(0,E)/\UpD E/\E.count=D.count/\E.cap=D.cap/\E.l=kx D.l (j8 D.l n)/\jM E.l+f.data.size=jM D.l/\E.l.length+1=D.l.length/\∀m,m≠n->jN E.l m=jN D.l m:=by
 have b:j8 D.l n<D.l.length:=l6.2 (by rw[a];simp);have c:D.l[j8 D.l n]? = some f:=by rw[dP];exact a
 have e:jg D n=(0, { D with l:=kx D.l (j8 D.l n) }):=by
  unfold jg yI yQ;rw[qZ (by simp[h.down]),qV b,h.fails,qV (by decide)]
 have w:=dO h.wf n;rw[e]at w;exact⟨_,e,⟨h.down,h.fails,w⟩,rfl,rfl,rfl,pO c,by have:=pM b;show(kx _ _).length+1=_;omega,fun m d=>sb d D.l⟩
end
section
open Go.RowKit
theorem sh{a b:Int}(h:a=b):Value.int .u32 a=.int .u32 b:=by rw[h]
theorem LA{a b:Int}(h:a=b):Ending.returned (.int .u32 a)=.returned (.int .u32 b):=by rw[h]
theorem LB(y:Nat)(d:y<4294967296):bits .xor .u32 ((y:Int)/2) (bits .and .u32 (y:Int) 1*3988292384%4294967296)=((stp y:Nat):Int):=by
 have a:bits .and .u32 (y:Int) 1=((y%2:Nat):Int):=by
  have h:=u32_and_nat y 1 d (by decide);rw[nat_mask1]at h;exact h
 have b:((y%2:Nat):Int)*3988292384%4294967296=((y%2*3988292384:Nat):Int):=by omega
 have c:(y:Int)/2=((y/2:Nat):Int):=by omega
 rw[a,b,c];exact u32_xor_nat _ _ (by omega) (by omega)
theorem LC(x c:Nat)(w:World)(b:x<4294967296)(g:c<256):
  Calls prog 307 #[.int .u32 (x:Nat),.int .u8 (c:Nat)] w (X0 (.int .u32 (pC x c:Nat)) w):=by
 go_enter func307,ntmps307;go_wp2
 go_loop [0,9] (fun a i=>∃k:Nat,k<=8/\i=.int .i64 k/\a=.int .u32 (stk k (x^^^c):Nat)) (fun _ i=>8-(intOf i).toNat)
 case atStart=>exact⟨0,by omega,rfl,sh (u32_xor_nat x c b (by omega))⟩
 case round =>
  obtain⟨k,j,rfl,rfl⟩:=hrel;by_cases l:k<8
  ·have f:stk k (x^^^c)<4294967296:=XX k (XQ b (by omega));have d:=qQ (FK k (x^^^c));generalize stk k (x^^^c)=y at*;go_wp2
   go_round
   case rel=>exact⟨k+1,by omega,by go_num,sh (by rw[d.out];exact LB y f)⟩
   case measure=>simp[intOf];omega
  ·obtain rfl:k=8:=(by omega);go_wp2;go_ret;exact⟨rfl,rfl⟩
theorem VJ(x:Nat)(a:x<4294967296):bits .xor .u32 IntKind.u32.max (x:Int)=((4294967295-x:Nat):Int):=by
 have e:IntKind.u32.max=((4294967295:Nat):Int):=by decide
 rw[e,FA a];exact u32_xor_nat _ _ (by decide) a
theorem LD(x:Nat)(s:Tw)(w:World)(o:x<4294967296)(n:s.size<=maxLen):
  Calls prog 285 #[.int .u32 (x:Nat),s] w (X0 (.int .u32 (pD x s.data.toList:Nat)) w):=by
 unfold maxLen at n;go_enter func285,ntmps285;go_wp2
 go_loop [5,11] (fun a i=>∃k:Nat,k<=s.size/\i=.int .i64 k/\a=.int .u32 (bZ (4294967295-x) (s.data.toList.take k):Nat)) (fun _ i=>s.size-(intOf i).toNat)
 case atStart =>
  exact⟨0,by omega,rfl,sh (by rw[List.take_zero,FV];exact VJ x o)⟩
 case round =>
  obtain⟨k,p,rfl,rfl⟩:=hrel;have c:bZ (4294967295-x) (s.data.toList.take k)<4294967296:=KO _ (by omega);by_cases l:k<s.size
  ·have b:=qQ (sN s k l);have g:=qQ (FG (4294967295-x) (s.data.toList.take k) s[k]);have j:=(s[k]).toNat_lt;generalize bZ (4294967295-x) (s.data.toList.take k)=y at*;go_wp2_with fail;refine X5 (LC y _ _ c j) ?_;go_wp2
   go_round
   case rel=>exact⟨k+1,by omega,by go_num,sh (by rw[b.out,g.out])⟩
   case measure=>simp[intOf];omega
  ·obtain rfl:k=s.size:=(by omega);have b:List.take s.size s.data.toList=s.data.toList:=qp (by simp);have d:pD x s.data.toList=4294967295-bZ (4294967295-x) s.data.toList:=rfl;rw[b]at c ⊢;clear b;generalize bZ (4294967295-x) s.data.toList=y at*;have f:=qQ d;clear d;go_wp2;go_ret;exact⟨LA (by rw[f.out];exact VJ y c),rfl⟩
theorem LF(s:Tw)(w:World)(a:s.size<=maxLen):
  Calls prog 251 #[s] w (X0 (.int .u32 (sO s.data.toList:Nat)) w):=by
 have h:=qQ (fun w=>LD 0 s w (by decide) a);unfold maxLen at a;go_enter func251,ntmps251;go_wp2_with fail;refine X5 (h.out _) ?_;go_wp2;go_ret;exact⟨rfl,rfl⟩
theorem VK: ∀(k n j:Nat) (h:j<(be k n).length),(be k n)[j]=UInt8.ofNat (n/256 ^ (k-1-j))
 | 0,n,j,h=>by simp[be]at h
 | k+1,n,0,h=>by simp[be]
 | k+1,n,j+1,h=>by
   have a:j<(be k n).length:=(by simpa[be] using h);have e:k+1-1-(j+1)=k-1-j:=(by omega);simp only[be,List.getElem_cons_succ,VK k n j a,e]
def my(n N k j:Nat):Value:=.int .u8 (if j+k<N then 0 else((n/256 ^ (N-1-j)%256:Nat):Int))
theorem LH(n N k j:Nat)(b:k<N):(if j=N-1-k then Value.int .u8 ((n/256 ^ k%256:Nat):Int) else my n N k j)=my n N (k+1) j:=by
 unfold my;by_cases h:j=N-1-k
 ·have e:N-1-j=k:=by omega
  rw[qV h,qZ (by omega),e]
 ·rw[qZ h];by_cases a:j+k<N
  ·rw[qV a,qV (by omega)]
  ·rw[qZ a,qZ (by omega)]
theorem LI(n N j:Nat)(h:j<(be N n).length):my n N N j=.int .u8 ((be N n)[j].toNat:Int):=by
 unfold my;rw[qZ (by omega),VK,UInt8.toNat_ofNat']
theorem LL(n k:Nat):(n:Int)/2 ^ (8*k)%256=((n/256 ^ k%256:Nat):Int):=by
 have e:(2:Nat) ^ (8*k)=256 ^ k:=by rw[Nat.pow_mul]
 rw[<-e,Int.natCast_emod,Int.natCast_ediv,Int.natCast_pow];rfl
theorem bK(n N:Nat)(w:World)(f:1<=N)(g:N<=8)(s:n<18446744073709551616):
  Calls prog 142 #[.int .u64 (n:Nat),N] w (X3 (.string (bs (be N n))) w):=by
 have r:=run_make_row' (P:=prog) 154 5 (.int .u8 0) 1 Tryz.underlying154 (by kernel_rfl) rfl .i64 .i64 N (by omega) (by omega);go_enter func142,ntmps142;go_wp2;go_loopw [16] (fun i wr=>∃k:Nat,k<=N/\i=.int .i64 k/\wr.rowIs w.1.size 5 N (my n N k)/\Below w.1.size w wr) (fun i _=>N-(intOf i).toNat)
 case atStart=>exact⟨0,qI _,rfl,(World.rowIs_made _ _ _ _).congr (fun j a=>by unfold my;rw[qV (by omega)]),(qU _ _).alloc (qK _) _⟩
 case round =>
  obtain⟨k,q,rfl,b,c⟩:=hrel;by_cases d:k<N
  ·have l:=b.cell (i:=N-1-k) (by omega);have p:=b.frozen (N-1-k);go_wp2;go_roundw
   case rel =>
    rw[LL n k];exact⟨k+1,by omega,by go_num,(b.set _ _).congr (fun j _=>LH n N k j d),c.setCell (qK _) _⟩
   case measure=>simp[intOf];omega
  ·obtain rfl:k=N:=by omega
   have o:(convert 154 9 (.slice (some ⟨w.1.size,0,none⟩) k k)).run prog wr=.ok (.string (bs (be k n))) wr:=by
    have h:=run_convert_bytes_back (P:=prog) wr 154 9 5 ⟨w.1.size,0,none⟩ k (be k n) Tryz.underlying154 Tryz.underlying5 Tryz.underlying9
     (fun j a=>by
      have e:(⟨w.1.size,0,none⟩:Addr).add j=⟨w.1.size,j,none⟩:=(by simp[Addr.add];omega);rw[e,b.cell (by rw[jn]at a;exact a),LI n k j a])
    rw[jn]at h;exact h
   go_wp2;go_ret;exact⟨rfl,c⟩
theorem LM(i a b c d:Nat)(g:b<2 ^ i)(f:d<2 ^ i):(2 ^ i*a+b)&&&(2 ^ i*c+d)=2 ^ i*(a&&&c)+(b&&&d):=by
 apply Nat.eq_of_testBit_eq;intro j;rw[Nat.testBit_and,Nat.testBit_two_pow_mul_add a g,Nat.testBit_two_pow_mul_add c f,Nat.testBit_two_pow_mul_add (a&&&c) (Nat.and_lt_two_pow b f)];split<;>rw[Nat.testBit_and]
theorem LN(i a b c d:Nat)(f:b<2 ^ i)(g:d<2 ^ i):(2 ^ i*a+b)|||(2 ^ i*c+d)=2 ^ i*(a|||c)+(b|||d):=by
 apply Nat.eq_of_testBit_eq;intro j;rw[Nat.testBit_or,Nat.testBit_two_pow_mul_add a f,Nat.testBit_two_pow_mul_add c g,Nat.testBit_two_pow_mul_add (a|||c) (Nat.or_lt_two_pow f g)];split<;>rw[Nat.testBit_or]
theorem VV(x:Nat):x&&&16711935=65536*(x/65536%256)+x%256:=by
 have h:=LM 16 (x/65536) (x%65536) 255 255 (Nat.mod_lt _ (by decide)) (by decide);have a:(2:Nat) ^ 16*(x/65536)+x%65536=x:=by omega
 have b:(2:Nat) ^ 16*255+255=16711935:=by decide
 rw[a,b,nat_mask8,nat_mask8]at h;rw[h];omega
theorem VY(a b:Nat)(c:b<256):b|||(256*a)=256*a+b:=by
 rw[Nat.or_comm];exact nat_join 8 (256*a) b (by omega) (by omega)
def fZ(n:Nat):Nat:=16777216*(n%256)+65536*(n/256%256)+256*(n/65536%256)+n/16777216%256
theorem VU(n:Nat):fZ n<4294967296:=by unfold fZ;omega
theorem LO(n:Nat)(d:n<4294967296):be 4 (fZ n)=(be 4 n).reverse:=by
 have e:un (be 4 n).reverse=fZ n:=by
  have a:(256:Nat) ^ 1=256:=by decide
  have b:(256:Nat) ^ 2=65536:=by decide
  have c:(256:Nat) ^ 3=16777216:=by decide
  simp only[a,b,c,Nat.pow_zero,Nat.div_one,be,List.reverse_cons,List.reverse_nil,List.nil_append,List.cons_append,un,List.foldl_cons,List.foldl_nil,UInt8.toNat_ofNat'];unfold fZ;omega
 have h:=mN (be 4 n).reverse;rw[List.length_reverse,jn,e]at h;exact h
theorem LP(n:Nat)(q:n<4294967296):bits .or .u32 (bits .and .u32 ((n:Int)/256) 16711935) (bits .and .u32 (n:Int) 16711935*256%4294967296) =
  ((16777216*(n/65536%256)+65536*(n/16777216%256)+256*(n%256)+n/256%256:Nat):Int):=by
 have j:(n:Int)/256=((n/256:Nat):Int):=by omega
 have k:bits .and .u32 ((n/256:Nat):Int) 16711935=((n/256&&&16711935:Nat):Int):=u32_and_nat _ _ (by omega) (by decide);have l:bits .and .u32 (n:Int) 16711935=((n&&&16711935:Nat):Int):=u32_and_nat _ _ q (by decide);rw[j,k,l,VV,VV];have g:n/256/65536%256=n/16777216%256:=by omega
 have r:n%256<256:=Nat.mod_lt _ (by decide);have s:n/256%256<256:=Nat.mod_lt _ (by decide);have u:n/65536%256<256:=Nat.mod_lt _ (by decide);have v:n/16777216%256<256:=Nat.mod_lt _ (by decide);rw[g];generalize n%256=a at*;generalize n/256%256=b at*;generalize n/65536%256=c at*;generalize n/16777216%256=d at*;have o:((65536*c+a:Nat):Int)*256%4294967296=((65536*(256*c)+256*a:Nat):Int):=by omega
 rw[o];have p:=u32_or_nat (65536*d+b) (65536*(256*c)+256*a) (by omega) (by omega);rw[p];have f:=LN 16 d b (256*c) (256*a) (by omega) (by omega);rw[VY c d (by omega),VY a b (by omega)]at f;have i:(2:Nat) ^ 16=65536:=by decide
 rw[i]at f;rw[f];omega
theorem LR(m:Nat)(c:m<4294967296):bits .or .u32 ((m:Int)/65536) ((m:Int)*65536%4294967296)=((m%65536*65536+m/65536:Nat):Int):=by
 have a:(m:Int)/65536=((m/65536:Nat):Int):=by omega
 have b:(m:Int)*65536%4294967296=((m%65536*65536:Nat):Int):=by omega
 rw[a,b,u32_or_nat _ _ (by omega) (by omega),Nat.or_comm];rw[nat_join 16 _ _ (by omega) (by omega)]
theorem LS(n:Nat)(w:World)(b:n<4294967296):
  Calls prog 250 #[.int .u32 (n:Nat)] w (X0 (.int .u32 (fZ n:Nat)) w):=by
 have a:=qQ (LP n b);go_enter func250,ntmps250;go_wp2;go_ret;refine⟨mL ?_,rfl⟩;rw[a.out,LR _ (by omega)];unfold fZ;omega
theorem L3(n:Nat)(w:World)(a:n<4294967296):
  Calls prog 142 #[.int .u64 (fZ n:Nat),.int .i64 4] w (X3 (.string (bs (be 4 n).reverse)) w):=by
 rw[<-LO n a];exact bK (fZ n) 4 w (by omega) (by omega) (by have:=VU n;omega)
theorem VG(s:Tw)(w:World)(b:s.size<=maxLen):
  Calls prog 211 #[s] w (X3 (.string (bs (bJ s.data.toList))) w):=by
 have c:=qQ (fun w=>LF s w b);have a:=FD s.data.toList;unfold bJ;generalize sO s.data.toList=n at*;have d:=qQ (fun w=>LS n w a);have f:=qQ (fun w=>L3 n w a);have i:=VU n;generalize fZ n=m at*;generalize bs (be 4 n).reverse=t at*;unfold maxLen at b;go_enter func211,ntmps211;go_wp2_with fail;refine X5 (c.out _) ?_;go_wp2_with fail;refine X5 (d.out _) ?_;go_wp2_with fail;refine KG (f.out _) fun w' g=>?_;go_wp2;go_ret;exact⟨rfl,g⟩
def vO(s:Tw):Tw:=s++bs (bJ s.data.toList)
theorem L4(s:Tw)(h:s.size+4<=maxLen)(l:List UInt8)(a:l.length=4)(w:World):(Op.stringOp .add s (bs l)).run prog w=.ok (.string (s++bs l)) w :=
 run_string_add_sum (P:=prog) (w:=w) s (bs l) (by rw[kK,a];exact h)
theorem nh(s:Tw)(w:World)(a:s.size+4<=maxLen):
  Calls prog 197 #[s] w (X3 (.string (vO s)) w):=by
 have b:=qQ (fun w=>VG s w (by omega));have d:=L4 s a _ (pE s.data.toList);unfold vO;generalize bJ s.data.toList=t at*;unfold maxLen at a;go_enter func197,ntmps197;go_wp2_with fail;refine KG (b.out _) fun w' c=>?_;go_wp2;go_ret;exact⟨rfl,c⟩
def yn(s:Tw):Bool:=decide (4<=s.size/\s.extract (s.size-4) s.size=bs (bJ (s.extract 0 (s.size-4)).data.toList))
def opA(s:Tw):Tw:=if yn s=true then s.extract 0 (s.size-4) else ByteArray.empty
theorem VW{a b:Tw}(h:a=b):(a.toList==b.toList)=true:=by rw[h,beq_iff_eq]
theorem XN{a b:Tw}(h:¬a=b):(a.toList==b.toList)=false:=by
 rw[qg];intro x;rw[Lib.toList_data,Lib.toList_data]at x;exact h (qi (Array.toList_inj.1 x))
theorem L7(s:Tw)(w:World)(i:s.size<=maxLen)(k:4<=s.size)(T:Tw)
  (c:∀W,Below w.1.size w W->Calls prog 211 #[.string (s.extract 0 (s.size-4))] W (X3 (.string T) w)):
  Calls prog 157 #[s] w (X3 (.tuple #[.string (if s.extract (s.size-4) s.size=T then s.extract 0 (s.size-4) else ByteArray.empty),.bool (decide (s.extract (s.size-4) s.size=T))]) w):=by
 have b:=qQ c;clear c;unfold maxLen at i;have j:decide ((s.size:Int)-4<0)=false:=by simp;omega
 have l:(0:Int)<=(s.size:Int)-4:=by omega
 have p:(4:Int)<=(s.size:Int):=by omega
 have n:(s.size:Int)-4<=s.size:=by omega
 have o:((s.size:Int)-4).toNat=s.size-4:=by omega
 by_cases a:s.extract (s.size-4) s.size=T
 ·have g:=VW a.symm;rw[qV a,qB a];have d:=qQ a;clear a;go_enter func157,ntmps157;go_wp2_with fail
  go_region_held3 (fun w'=>Below w.1.size w w') (first|assumption|exact(qU _ _).drew) ((go_at_call 211;refine KG (b.out _ (by assumption)) fun w' f=>?_))
  go_wp2;go_ret2;exact⟨rfl,‹Below _ _ _›⟩
 ·have g:=XN (fun h:T=s.extract (s.size-4) s.size=>a h.symm);rw[qZ a,qA a];have d:=qQ a;clear a;go_enter func157,ntmps157;go_wp2_with fail
  go_region_held3 (fun w'=>Below w.1.size w w') (first|assumption|exact(qU _ _).drew) ((go_at_call 211;refine KG (b.out _ (by assumption)) fun w' f=>?_))
  go_wp2;go_ret2;exact⟨rfl,‹Below _ _ _›⟩
theorem XO(s:Tw)(w:World)(f:s.size<=maxLen):
  Calls prog 157 #[s] w (X3 (.tuple #[.string (opA s),.bool (yn s)]) w):=by
 by_cases c:4<=s.size
 ·have h:=L7 s w f c (bs (bJ (s.extract 0 (s.size-4)).data.toList)) (fun W d=>(VG _ W (by unfold maxLen at*;rw[qk];omega)).mono fun e w' ⟨i,g⟩=>⟨i,d.trans (g.mono d.size)⟩);have a:yn s=decide (s.extract (s.size-4) s.size=bs (bJ (s.extract 0 (s.size-4)).data.toList)):=by simp[yn,c]
  have b:opA s=if s.extract (s.size-4) s.size=bs (bJ (s.extract 0 (s.size-4)).data.toList) then s.extract 0 (s.size-4) else ByteArray.empty:=by
   unfold opA;rw[a];simp
  rw[a,b];exact h
 ·have a:yn s=false:=by simp[yn,c]
  have b:opA s=ByteArray.empty:=by simp[opA,a]
  rw[a,b];clear a b;unfold maxLen at f;have j:decide ((s.size:Int)-4<0)=true:=by simp;omega
  go_enter func157,ntmps157;go_wp2_with fail;go_quiet (fail);go_wp2;go_ret2;exact⟨rfl,uK (qU _ _) _⟩
end
section
theorem XP(l:List UInt8):(bs l).data.toList=l:=by simp[bs]
theorem dX(s:Tw):s.data.toList.length=s.size:=Array.length_toList
theorem nr(s:Tw)(a b:Nat):(s.extract a b).data.toList=(s.data.toList.drop a).take (b-a):=by simp
theorem fv(s:Tw)(a b:Nat):s.extract a b=bs ((s.data.toList.drop a).take (b-a)):=by rw[<-nr,mO]
theorem sn(s:Tw):(vO s).data.toList=s.data.toList++bJ s.data.toList:=by simp[vO,bs]
theorem l7(s:Tw):(vO s).size=s.size+4:=by rw[<-dX,sn,qN,pE,dX]
theorem L8(s:Tw):yn (vO s)=true:=by
 unfold yn;refine qB ⟨by rw[l7];omega, ?_⟩
 have a:(vO s).extract 0 ((vO s).size-4)=s:=by
  rw[fv,l7,sn];have:s.data.toList.length=s.size:=dX s;rw[List.drop_zero,show s.size+4-4-0=s.data.toList.length by omega,List.take_left,mO]
 rw[a,fv,l7,sn];have:s.data.toList.length=s.size:=dX s;rw[show s.size+4-4=s.data.toList.length by omega,List.drop_left,qp (by rw[pE];omega)]
end
section
open Go.RowKit
theorem L9(s:Tw)(k:Nat)(h:k<=7):un (s.data.toList.take k)<=72057594037927935:=by
 have b:=lN (s.data.toList.take k);have a:(s.data.toList.take k).length<=7:=by rw[qT];omega
 have c:256 ^ (s.data.toList.take k).length<=256 ^ 7:=Nat.pow_le_pow_right (by decide) a;have:(256:Nat) ^ 7=72057594037927936:=by decide
 omega
theorem Lq(s:Tw)(k:Nat)(h:k<s.size):un (s.data.toList.take (k+1))=un (s.data.toList.take k)*256+(s[k]).toNat:=by
 rw[sN s k h,FZ]
theorem Lx(s:Tw)(k:Nat)(h:k=s.size∨k=8)(a:k<=8):un (s.data.toList.take k)=jz s:=by
 unfold jz;rcases h with h|h
 ·subst h;rw[qp (by simp),qp (by simp;omega)]
 ·rw[h]
theorem Lz(a c:Nat)(g:a<=72057594037927935)(f:c<2 ^ 8):bits .or .u64 ((a:Int)*256) (c:Int)=((a*256+c:Nat):Int):=by
 have e:(a:Int)*256=((a*256:Nat):Int):=by omega
 have h:=Nat.shiftLeft_add_eq_or_of_lt f a;rw[Nat.shiftLeft_eq]at h
 have b:(BitVec.ofInt 64 ((a*256:Nat):Int)).toNat=a*256:=by
  rw[BitVec.ofInt_natCast,BitVec.toNat_ofNat];exact Nat.mod_eq_of_lt (by omega)
 have d:(BitVec.ofInt 64 (c:Int)).toNat=c:=by
  rw[BitVec.ofInt_natCast,BitVec.toNat_ofNat];exact Nat.mod_eq_of_lt (by omega)
 rw[e];show IntKind.u64.wrap ((BitVec.ofInt 64 ((a*256:Nat):Int)|||BitVec.ofInt 64 (c:Int)).toNat:Int)=_;rw[BitVec.toNat_or,b,d,<-show a*256+c=a*256|||c from h,IntKind.wrap_u64];omega
theorem dZ(s:Tw)(w:World)(g:s.size<=maxLen):
  Calls prog 131 #[s] w (X0 (.int .u64 (jz s:Nat)) w):=by
 unfold maxLen at g;by_cases l:s.size<=8
 all_goals
  go_enter func131,ntmps131;go_wp2
  go_loop [3,8] (fun n i=>∃k:Nat,k<=s.size/\k<=8/\i=.int .i64 k/\n=.int .u64 (un (s.data.toList.take k):Nat)) (fun _ i=>8-(intOf i).toNat)
  case atStart=>exact⟨0,qI _,by omega,rfl,rfl⟩
  case round =>
   obtain⟨k,p,d,rfl,rfl⟩:=hrel;by_cases f:k<s.size/\k<8
   ·obtain⟨a,j⟩:=f;have o:=L9 s k (by omega);have hst:=qQ (Lq s k a);have b:=(s[k]).toNat_lt;go_wp2
    go_round
    case rel=>exact⟨k+1,by omega,by omega,by go_num,by rw[hst.out,Lz _ _ (by omega) b]⟩
    case measure=>simp[intOf];omega
   ·have c:=qQ (Lx s k (by omega) d);go_wp2;go_ret;exact⟨mL (by rw[c.out]),rfl⟩
end
section
def bV(n p:Int):Bool:=decide (60<=n/\n<=120000/\n%60=0/\1<=p/\p<=16)
theorem sa{n p:Int}:bV n p=true↔60<=n/\n<=120000/\n%60=0/\1<=p/\p<=16:=by unfold bV;exact decide_eq_true_iff
def hdL(n p:Nat):List UInt8:=[98,108,109,UInt8.ofNat p]++(be 4 n++List.replicate 52 0)
theorem VA(n p:Nat):(hdL n p).length=60:=by simp[hdL,jn]
def hdP(n p:Nat):Tw:=vO (bs (hdL n p))
theorem VB(n p:Nat):(hdP n p).size=64:=by unfold hdP;rw[l7,kK,VA]
def pgT(t:Tw)(j:Nat):Tw:=t.extract (64*j) (64*j+64)
def pgW(t:Tw)(j:Nat):Bool:=decide (64*j+64<=t.size)&&yn (pgT t j)
theorem Lj(t:Tw)(j:Nat):(pgT t j).data.toList=(t.data.toList.drop (64*j)).take 64:=by unfold pgT;rw[nr,show 64*j+64-64*j=64 by omega]
theorem Lv(t:Tw)(j i:Nat)(hi:i<64):(pgT t j).data.toList[i]? = t.data.toList[64*j+i]? := by rw[Lj,List.getElem?_take,qV hi,List.getElem?_drop]
theorem XR{t:Tw}{j:Nat}(h:64*j+64<=t.size):(pgT t j).size=64:=by unfold pgT;rw[qk];omega
theorem XS{t:Tw}{j:Nat}:pgW t j=true↔64*j+64<=t.size/\yn (pgT t j)=true:=by unfold pgW;rw[Bool.and_eq_true,decide_eq_true_iff]
def hpT(t:Tw):Nat:=(t.data.toList.getD 3 0).toNat
def hnT(t:Tw):Nat:=jz (t.extract 4 8)
def yr(t:Tw):Bool:=decide (64<=t.size)&&(bV (hnT t) (hpT t)&&decide (t.extract 0 64=hdP (hnT t) (hpT t)))
theorem XT{t:Tw}:yr t=true↔64<=t.size/\bV (hnT t) (hpT t)=true/\t.extract 0 64=hdP (hnT t) (hpT t):=by unfold yr;rw[Bool.and_eq_true,Bool.and_eq_true,decide_eq_true_iff,decide_eq_true_iff]
theorem X6{t:Tw}(h:t.size<64):yr t=false:=by
 unfold yr;rw[qA (by omega),Bool.false_and]
theorem Ly{t:Tw}(h:bV (hnT t) (hpT t)=false):yr t=false:=by
 unfold yr;rw[h,Bool.false_and,Bool.and_false]
theorem Lu{t:Tw}(h:¬t.extract 0 64=hdP (hnT t) (hpT t)):yr t=false:=by
 unfold yr;rw[qA h,Bool.and_false,Bool.and_false]
def byT(t:Tw)(k:Nat):UInt8:=t.data.toList.getD (64*(k/480+1)+k/8%60) 0
def VC(t:Tw)(k:Nat):Bool:=(byT t k).toNat.testBit (k%8)
def bY(t:Tw)(k:Nat):Bool:=pgW t (k/480+1)&&!VC t k
def gV(t:Tw)(h:Nat):Bool:=!yr t||(gK h (hpT t) ((8*hnT t:Nat):Int)).all fun k=>!bY t k
theorem VD{t:Tw}(h:yr t=false)(g:Nat):gV t g=true:=by unfold gV;rw[h];rfl
theorem Lg{t:Tw}(h:yr t=true)(g:Nat):gV t g=(gK g (hpT t) ((8*hnT t:Nat):Int)).all fun k=>!bY t k:=by unfold gV;rw[h];rfl
theorem Lb{t:Tw}{g:Nat}(H:∀k∈gK g (hpT t) ((8*hnT t:Nat):Int),bY t k=false):gV t g=true:=by
 unfold gV;rw[Bool.or_eq_true,List.all_eq_true];exact qY fun k a=>by rw[H k a];rfl
theorem Ld{t:Tw}{g k:Nat}(h:yr t=true)(a:k∈gK g (hpT t) ((8*hnT t:Nat):Int))(H:bY t k=true):gV t g=false:=by
 rw[Lg h,List.all_eq_false];exact⟨k,a,by rw[H];decide⟩
def pgs(a:Tw):Nat->Tw
 | 0=>ByteArray.empty
 | k+1=>pgs a k++vO (a.extract (60*k) (60*k+60))
theorem VE(a:Tw)(k:Nat):pgs a (k+1)=pgs a k++vO (a.extract (60*k) (60*k+60)):=rfl
theorem Xq(a:Tw):∀k,60*k<=a.size->(pgs a k).size=64*k
 | 0,_=>rfl
 | k+1,h=>by rw[VE,qx,Xq a k (by omega),l7,qk];omega
def fu(a:Tw)(p:Int):Tw:=if bV a.size p then hdP a.size p.toNat++pgs a (a.size/60) else ByteArray.empty
theorem VF{a:Tw}{p:Int}(h:bV a.size p=false):fu a p=ByteArray.empty:=by unfold fu;rw[h];rfl
theorem VH{a:Tw}{p:Int}(h:bV a.size p=true):fu a p=hdP a.size p.toNat++pgs a (a.size/60):=by unfold fu;rw[h];rfl
theorem Lh{a:Tw}{p:Int}(h:bV a.size p=true):(fu a p).size=64*(a.size/60+1):=by
 rw[VH h,qx,VB,Xq a _ (by omega)];omega
theorem Ll(l:List Nat)(p:Int)(n:Nat)(a:0<n)(b:n<=125000):(bs (dN l p ((8*n:Nat):Int))).size=n:=by
 rw[kK,Kj (by unfold lS;exact qB (by omega)),Kz];omega
end
section
open Go.RowKit
theorem pS(s:Tw):s.data.toList.length=s.size:=Array.length_toList
theorem dbs(l:List UInt8):(bs l).data.toList=l:=by simp[bs]
theorem VI(s:Tw):bs s.data.toList=s:=by
 apply qi;simp[bs]
def de: Nat->Nat->List UInt8
 | 0,_=>[]
 | k+1,n=>UInt8.ofNat (48+n/10 ^ k%10)::de k n
theorem ni: ∀k n:Nat,(de k n).length=k
 | 0,_=>rfl
 | k+1,n=>by simp[de,ni k n]
def isD(c:UInt8):Bool:=decide (48<=c.toNat/\c.toNat<=57)
def dv(l:List UInt8):Nat:=l.foldl (fun a c=>a*10+(c.toNat-48)) 0
theorem Lm(l:List UInt8)(c:UInt8):dv (l++[c])=dv l*10+(c.toNat-48):=by simp[dv]
theorem Xx: ∀(l:List UInt8) (a:Nat),l.foldl (fun a c=>a*10+(c.toNat-48)) a=a*10 ^ l.length+dv l
 | [],a=>by simp[dv]
 | c::l,a=>by
   have h1:=Xx l (a*10+(c.toNat-48));have b:=Xx l (0*10+(c.toNat-48));simp only[dv,List.foldl_cons,List.length_cons]at*;rw[h1,b,Nat.pow_succ];simp only[Nat.add_mul,Nat.zero_mul,Nat.zero_add];rw[Nat.mul_assoc,Nat.mul_comm 10];omega
theorem Xz(c:UInt8)(l:List UInt8):dv (c::l)=(c.toNat-48)*10 ^ l.length+dv l:=by
 have h:=Xx l (0*10+(c.toNat-48));simp only[dv,List.foldl_cons]at*;rw[h];simp
theorem oQ(d:Nat)(h:d<10):(UInt8.ofNat (48+d)).toNat=48+d:=by rw[UInt8.toNat_ofNat'];omega
theorem se: ∀ {l:List UInt8},(∀c∈l,isD c=true)->dv l<10 ^ l.length
 | [],_=>by decide
 | c::l,h=>by
   have h1:=se (fun x b=>h x (qF _ b));have a:=h c (qC ..);simp only[isD,decide_eq_true_eq]at a;rw[Xz,qv,Nat.pow_succ];have:(c.toNat-48)*10 ^ l.length<=9*10 ^ l.length:=Nat.mul_le_mul_right _ (by omega);omega
theorem Xj: ∀k n:Nat,dv (de k n)=n%10 ^ k
 | 0,n=>by rw[Nat.pow_zero,Nat.mod_one];rfl
 | k+1,n=>by
   have e:(10:Nat) ^ (k+1)=10 ^ k*10:=Nat.pow_succ ..;rw[de,Xz,ni,Xj k n,oQ _ (Nat.mod_lt _ (by decide)),e,Nat.mod_mul,Nat.add_sub_cancel_left,Nat.mul_comm,Nat.add_comm]
theorem VL: ∀(k n:Nat) (c:UInt8),c∈de k n->isD c=true
 | 0,n,c,h=>by cases h
 | k+1,n,c,h=>by
   rw[de]at h;rcases qL.1 h with rfl|h
   ·have:=Nat.mod_lt (n/10 ^ k) (show 0<10 by decide);unfold isD;rw[oQ _ this];exact qB (by omega)
   ·exact VL k n c h
theorem Ln: ∀ {l:List UInt8},(∀c∈l,isD c=true)->de l.length (dv l)=l:=by
 intro l a
 suffices h:∀(l:List UInt8) (m:Nat),(∀c∈l,isD c=true)->de l.length (m*10 ^ l.length+dv l)=l by
  have:=h l 0 a;simpa using this
 intro l
 induction l with
 | nil=>intro m _;rfl
 | cons c l j =>
   intro m a;have g:=se (l:=l) (fun x b=>a x (qF _ b));have f:=a c (qC ..);simp only[isD,decide_eq_true_eq]at f;have i:0<10 ^ l.length:=Nat.pow_pos (by decide);rw[qv,de,Xz]
   have e:m*10 ^ (l.length+1)+((c.toNat-48)*10 ^ l.length+dv l)=(m*10+(c.toNat-48))*10 ^ l.length+dv l:=by
    rw[Nat.pow_succ,Nat.add_mul,Nat.mul_assoc m 10,Nat.mul_comm 10];omega
   rw[e,j _ (fun x b=>a x (qF _ b))]
   have d:((m*10+(c.toNat-48))*10 ^ l.length+dv l)/10 ^ l.length=m*10+(c.toNat-48):=by
    rw[Nat.mul_comm,Nat.mul_add_div i,Nat.div_eq_of_lt g,Nat.add_zero]
   rw[d];congr 1;apply UInt8.toNat_inj.1;rw[show(m*10+(c.toNat-48))%10=c.toNat-48 by omega,oQ _ (by omega)];omega
theorem VM: ∀k a b:Nat,Op.bytesLess (de k a) (de k b)=decide (a%10 ^ k<b%10 ^ k)
 | 0,a,b=>by simp[de,Op.bytesLess,Nat.mod_one]
 | k+1,a,b=>by
   have hk:=VM k a b;have g:=Nat.mod_lt (a/10 ^ k) (show 0<10 by decide);have i:=Nat.mod_lt (b/10 ^ k) (show 0<10 by decide);have f:0<10 ^ k:=Nat.pow_pos (by decide);have o:=Nat.mod_lt a f;have r:=Nat.mod_lt b f;rw[de,de,Op.bytesLess,hk,Nat.pow_succ,Nat.mod_mul,Nat.mod_mul];have l:=oQ _ g;have n:=oQ _ i;generalize a/10 ^ k%10=x at*;generalize b/10 ^ k%10=y at*;generalize a%10 ^ k=p at*;generalize b%10 ^ k=q at*;generalize 10 ^ k=P at*;rw[Bool.eq_iff_iff];simp only[Bool.or_eq_true,Bool.and_eq_true,decide_eq_true_eq,beq_iff_eq];rcases Nat.lt_trichotomy x y with h|h|h
   ·have c:(x+1)*P<=y*P:=Nat.mul_le_mul_right _ h;rw[Nat.add_mul,Nat.mul_comm x,Nat.mul_comm y]at c;have d:UInt8.ofNat (48+x)<UInt8.ofNat (48+y):=UInt8.lt_iff_toNat_lt.2 (by omega);simp only[d,true_or,true_iff];omega
   ·subst h;simp
   ·have c:(y+1)*P<=x*P:=Nat.mul_le_mul_right _ h;rw[Nat.add_mul,Nat.mul_comm x,Nat.mul_comm y]at c;have d:¬UInt8.ofNat (48+x)<UInt8.ofNat (48+y):=fun e=>by have:=UInt8.lt_iff_toNat_lt.1 e;omega
    have j:¬UInt8.ofNat (48+x)=UInt8.ofNat (48+y):=fun e=>by have:=congrArg UInt8.toNat e;omega
    simp only[d,j,false_and,or_false,false_iff];omega
def nmS(c:UInt8)(n:Int):Tw:=if 0<=n/\n<=999999 then bs (c::de 6 n.toNat) else ByteArray.empty
theorem Lp{c:UInt8}{n:Int}(h:¬(0<=n/\n<=999999)):nmS c n=ByteArray.empty:=by unfold nmS;rw[qZ h]
theorem fJ{c:UInt8}{n:Nat}(h:n<=999999):nmS c (n:Nat)=bs (c::de 6 n):=by unfold nmS;rw[qV (by omega),qm]
def isK(c:UInt8):Bool:=c==99||c==116||c==98
def vq(s:Tw):Bool:=match s.data.toList with
 | []=>false
 | c::l=>decide (l.length=6)&&isK c&&l.all isD
def npK(s:Tw):Nat:=if vq s=true then(s.data.toList.headD 0).toNat else 0
def npN(s:Tw):Nat:=if vq s=true then dv s.data.toList.tail else 0
theorem pT{s:Tw}(h:vq s=false):npK s=0/\npN s=0:=by simp[npK,npN,h]
theorem Xk{s:Tw}(h:vq s=true):∃c l,s=bs (c::l)/\l.length=6/\isK c=true/\(∀x∈l,isD x=true)/\npK s=c.toNat/\npN s=dv l:=by
 have b:=h;unfold vq at h;cases a:s.data.toList with
 | nil=>rw[a]at h;cases h
 | cons c l =>
   rw[a]at h;simp only[Bool.and_eq_true,decide_eq_true_eq,List.all_eq_true]at h;refine⟨c,l,by rw[<-a,VI],h.1.1,h.1.2,h.2, ?_, ?_⟩
   ·unfold npK;rw[qV b,a];rfl
   ·unfold npN;rw[qV b,a];rfl
theorem VN(c:UInt8)(l:List UInt8)(d:l.length=6)(a:isK c=true)(b:∀x∈l,isD x=true):vq (bs (c::l))=true/\npK (bs (c::l))=c.toNat/\npN (bs (c::l))=dv l:=by
 have h:vq (bs (c::l))=true:=by
  unfold vq;rw[dbs];simp only[Bool.and_eq_true,decide_eq_true_eq,List.all_eq_true];exact⟨⟨d,a⟩,b⟩
 refine⟨h, ?_, ?_⟩
 ·unfold npK;rw[qV h,dbs];rfl
 ·unfold npN;rw[qV h,dbs];rfl
theorem si{s:Tw}(h:∀c l,s.data.toList=c::l->¬(l.length=6/\isK c=true/\∀x∈l,isD x=true)):vq s=false:=by
 cases e:vq s with
 | false=>rfl
 | true =>
   obtain⟨c,l,f,a,b,d,_⟩:=Xk e;exact absurd ⟨a,b,d⟩ (h c l (by rw[f,dbs]))
theorem Xv{c:UInt8}{n:Nat}(f:isK c=true)(h:n<=999999):vq (nmS c (n:Nat))=true/\npK (nmS c (n:Nat))=c.toNat/\npN (nmS c (n:Nat))=n:=by
 rw[fJ h];obtain⟨a,b,d⟩:=VN c (de 6 n) (ni _ _) f (fun x g=>VL _ _ _ g);refine⟨a,b, ?_⟩;rw[d,Xj];exact Nat.mod_eq_of_lt (by omega)
theorem VO{s:Tw}(h:vq s=true):npN s<=999999/\(npK s=99/\nmS 99 (npN s:Nat)=s∨npK s=116/\nmS 116 (npN s:Nat)=s∨npK s=98/\nmS 98 (npN s:Nat)=s):=by
 obtain⟨c,l,o,i,d,f,a,k⟩:=Xk h;have n:=se f;rw[i]at n;have j:npN s<=999999:=by rw[k];omega
 have g:=Ln f;rw[i]at g;have b:nmS c (npN s:Nat)=s:=by rw[fJ j,k,g,o]
 refine⟨j, ?_⟩;simp only[isK,Bool.or_eq_true,beq_iff_eq]at d;rcases d with(rfl|rfl)|rfl
 ·exact qX ⟨a,b⟩
 ·exact qY (qX ⟨a,b⟩)
 ·exact qY (qY ⟨a,b⟩)
theorem oX{c:UInt8}{n:Nat}(h:n<=999999):(nmS c (n:Nat)).size=7:=by rw[fJ h,kK,qv,ni]
theorem Lr(c:UInt8){m n:Nat}(a:m<=999999)(b:n<=999999):Op.bytesLess (nmS c (m:Nat)).toList (nmS c (n:Nat)).toList=decide ((m:Int)<(n:Int)):=by
 rw[fJ a,fJ b,Lib.toList_data,Lib.toList_data,dbs,dbs,Op.bytesLess,VM,Nat.mod_eq_of_lt (show m<10 ^ 6 by omega),Nat.mod_eq_of_lt (show n<10 ^ 6 by omega)];have:¬c<c:=fun h=>by have:=UInt8.lt_iff_toNat_lt.1 h;omega
 rw[Bool.eq_iff_iff];simp[this]
theorem Lt(c:UInt8){m n:Nat}(b:m<=999999)(d:n<=999999):((nmS c (m:Nat)).toList==(nmS c (n:Nat)).toList)=((m:Int)==(n:Int)):=by
 rw[Bool.eq_iff_iff,beq_iff_eq,beq_iff_eq];constructor
 ·intro h;rw[Lib.toList_data,Lib.toList_data,fJ b,fJ d,dbs,dbs]at h;have a:=congrArg (fun l=>dv l.tail) h;simp only[List.tail_cons,Xj]at a;omega
 ·intro h;have:m=n:=by omega
  rw[this]
end
section
open Go.RowKit
def DS(At:jR)(w0:World)(gd:Nat)(D:jD)(E:List Nat)(w:World):Prop :=
 ∃F,At w w0.1.size gd F D/\Below w0.1.size w0 w/\∀b∈E,b ∉ F/\b<w.1.size
structure jE(E:List Nat)(w w':World):Prop where
 size:w.1.size<=w'.1.size
 block:∀b∈E,w'.heap[b]? = w.heap[b]?
def y9(At:jR)(w0:World)(gd:Nat)(v:Value)(D':jD)(E:List Nat)(w:World)(e:Ending)(w':World):Prop:=e=.returned v/\DS At w0 gd D' E w'/\jE E w w'
abbrev jL(v:Value):List Nat:=v.ownBlock.toList
theorem jt{v:Value}{b:Nat}:b∈jL v↔v.ownBlock=some b:=by simp[jL]
section
variable {E E':List Nat}{w w' w'':World}
theorem jE.refl(E:List Nat)(w:World):jE E w w:=⟨qK _,fun _ _=>rfl⟩
theorem jE.trans(h:jE E w w')(k:jE E w' w''):jE E w w'':=⟨qR h.size k.size,fun b a=>(k.block b a).trans (h.block b a)⟩
theorem jE.less(h:jE E w w')(a:∀b∈E',b∈E):jE E' w w':=⟨h.size,fun b c=>h.block b (a b c)⟩
theorem jE.drew(h:jE E w w'):jE E w w'.drew:=⟨h.size,h.block⟩
theorem jE.xW{g:Nat}{t:TypeId}{cs:Array Value}(h:jE E w w')(a:jF w g t cs)(b:g∈E):jF w' g t cs:=(h.block g b).trans a
theorem jE.xP{B:List Nat}(c:jH B w w')(a:∀b∈E,b<w.1.size/\b ∉ B):jE E w w':=⟨c.size,fun b h=>c.block b (a b h).1 (a b h).2⟩
theorem jE.xA(a:Below w.1.size w w')(c:∀b∈E,b<w.1.size):jE E w w':=⟨a.size,fun b h=>a.block b (c b h)⟩
end
section
variable {At:jR}{w0 w w':World}{gd:Nat}{D D':jD}{E E':List Nat}
theorem DS.kept(h:DS At w0 gd D E w):Below w0.1.size w0 w:=by obtain⟨F,b,a,c⟩:=h;exact a
theorem DS.lt(h:DS At w0 gd D E w):∀b∈E,b<w.1.size:=by obtain⟨F,d,f,a⟩:=h;exact fun b c=>(a b c).2
theorem DS.less(h:DS At w0 gd D E w)(f:∀b∈E',b∈E):DS At w0 gd D E' w:=by
 obtain⟨F,a,c,d⟩:=h;exact⟨F,a,c,fun b g=>d b (f b g)⟩
theorem DS.xH(api:jS At)(h:DS At w0 gd D E w):D.l.Pairwise (fun f g=>vD f.name g.name=true):=by
 obtain⟨F,a,b,c⟩:=h;exact(api.xH a).1
theorem DS.zK(api:jS At)(h:DS At w0 gd D E w){B:List Nat}(c:jH B w w')(g:∀b∈B,b∈E/\w0.1.size<=b):DS At w0 gd D E w':=by
 obtain⟨F,j,f,a⟩:=h;exact⟨F,api.xC j c (fun x d k=>(a x (g x k).1).1 d),f.trans (c.below f.size (fun x d=>(g x d).2)),fun b i=>⟨(a b i).1,qS (a b i).2 c.size⟩⟩
theorem DS.below(api:jS At)(h:DS At w0 gd D E w)(a:Below w.1.size w w'):DS At w0 gd D E w':=by
 obtain⟨F,g,c,d⟩:=h;exact⟨F,api.xC g (jH.xA a) (fun _ _=>by simp),c.trans (a.mono c.size),fun b f=>⟨(d b f).1,qS (d b f).2 a.size⟩⟩
theorem DS.drew(api:jS At)(h:DS At w0 gd D E w):DS At w0 gd D E w.drew:=h.below api (qU _ _).drew
theorem DS.more(api:jS At)(h:DS At w0 gd D E w)(c:Below w.1.size w w'){B:List Nat}(i:∀b∈B,w.1.size<=b/\b<w'.1.size):DS At w0 gd D (B++E) w':=by
 obtain⟨F,d,f,g⟩:=h;refine⟨F,api.xC d (jH.xA c) (fun _ _=>by simp),f.trans (c.mono f.size),fun b a=>?_⟩;rcases qE.1 a with a|a
 ·exact⟨fun j=>by have:=(api.low d b j).2;have:=(i b a).1;omega,(i b a).2⟩
 ·exact⟨(g b a).1,qS (g b a).2 c.size⟩
theorem DS.xD(api:jS At)(h:DS At w0 gd D E w){P:Program}{f:FuncId}{args:Array Value}{v:Value}(p:∀F,At w w0.1.size gd F D->Calls P f args w (yY At w0.1.size gd F w v D')):Calls P f args w (y9 At w0 gd v D' E w):=by
 obtain⟨F,g,i,c⟩:=h;refine(p F g).mono ?_;rintro e w'⟨j,l,n,o,d⟩;refine⟨l,⟨j,n,i.trans (d.below i.size (fun x r=>(api.low g x r).1)),fun b a=>⟨fun q=>?_,qS (c b a).2 d.size⟩⟩,d.size,fun b a=>d.block b (c b a).2 (c b a).1⟩;rcases o b q with k|k
 ·exact(c b a).1 k
 ·have:=(c b a).2;omega
theorem DS.at_(h:DS At w0 gd D E w):∃F,At w w0.1.size gd F D:=by obtain⟨F,a,-⟩:=h;exact⟨F,a⟩
theorem DS.size(api:jS At)(h:DS At w0 gd D E w)(ok:WfP D)(n:Tw)(b:n.size<=maxLen):Calls prog 129 #[ptr gd,n] w (X0 (.tuple #[.int .i64 ((jk D n).1:Nat),err (jk D n).2]) w):=by
 obtain⟨F,a⟩:=h.at_;exact api.zI n a ok.ok b
end
theorem so(D:jD)(n:Tw):(D.down=true/\jk D n=(0,61))∨(D.down=false/\((jk D n).2=0∨(jk D n).2=4)):=by
 unfold jk;cases D.down
 ·refine qY ⟨rfl, ?_⟩;rw[qZ (by decide)];split
  ·exact qY rfl
  ·exact qX rfl
 ·exact qX ⟨rfl,rfl⟩
theorem VP{D:jD}(h:WfP D)(n:Tw):(jk D n).1<=1048576:=by
 unfold jk;split
 ·exact qI _
 ·split
  ·exact qI _
  ·rename_i f a;exact(h.ok.x8 f (qM a)).2
theorem Xy{D:jD}(h:WfP D)(n:Tw):(rdW D n).1.size<=D.cap:=by
 unfold rdW;split
 ·unfold vE;split
  ·exact qI _
  ·dsimp only;split
   ·exact qI _
   ·rename_i f a;split
    ·exact qI _
    ·have:=XB (qM a);have:=h.used;show(f.data.extract _ _).size<=_;rw[qk];omega
 ·exact qI _
end
section
open Go.RowKit
def stS(s:Tw):Bool:=decide (1<=s.size/\s.size<=32)
theorem sw(s:Tw)(w:World)(c:s.size<=maxLen):
  Calls prog 52 #[s] w (X0 (.bool (stS s)) w):=by
 unfold maxLen at c;unfold stS;by_cases a:1<=s.size
 ·have d:decide ((1:Int)<=(s.size:Int))=true:=qB (by omega);by_cases b:s.size<=32
  ·have f:decide ((s.size:Int)<=32)=true:=qB (by omega);rw[qB ⟨a,b⟩];go_enter func52,ntmps52;go_wp2;go_ret;exact⟨rfl,rfl⟩
  ·have f:decide ((s.size:Int)<=32)=false:=qA (by omega);rw[qA (fun h=>b h.2)];go_enter func52,ntmps52;go_wp2;go_ret;exact⟨rfl,rfl⟩
 ·have d:decide ((1:Int)<=(s.size:Int))=false:=qA (by omega);rw[qA (fun h=>a h.1)];go_enter func52,ntmps52;go_wp2;go_ret;exact⟨rfl,rfl⟩
theorem La{s:Tw}{c:UInt8}{l:List UInt8}(h:s.data.toList=c::l)(j:Nat)(d:j<l.length)(a:j+1<s.size):s[j+1]'a=l[j]:=by
 have b:s.data.toList[j+1]'(by rw[pS];exact a)=l[j]:=by simp[h]
 exact b
theorem VR{s:Tw}{c:UInt8}{l:List UInt8}(h:s.data.toList=c::l)(a:0<s.size):s[0]'a=c:=by
 have b:s.data.toList[0]'(by rw[pS];exact a)=c:=by simp[h]
 exact b
theorem Le{l:List UInt8}{j:Nat}(a:j<l.length):dv (l.take (j+1))=dv (l.take j)*10+(l[j].toNat-48):=by
 rw[qw,qD a];exact Lm _ _
structure jw: Prop where
 stream:∀(s:Tw) (w:World),s.size<=maxLen->Calls prog 46 #[s] w (X3 (.bool (stS s)) w)
 chunk:∀(n:Int) (w:World),(Lit.int .i64 n).wf=true->Calls prog 128 #[n] w (X3 (.string (nmS 99 n)) w)
 table:∀(n:Int) (w:World),(Lit.int .i64 n).wf=true->Calls prog 123 #[n] w (X3 (.string (nmS 116 n)) w)
 zM:∀(n:Int) (w:World),(Lit.int .i64 n).wf=true->Calls prog 124 #[n] w (X3 (.string (nmS 98 n)) w)
 parse:∀(s:Tw) (w:World),s.size<=maxLen->Calls prog 126 #[s] w (X3 (.tuple #[.int .u8 (npK s:Nat),.int .i64 (npN s:Nat),.bool (vq s)]) w)
end
section
open Go.RowKit
open Go.Maps (Keyed)
def pgC(l:List UInt8):Array Value:=(l.map fun c=>Value.int .u8 (c.toNat:Int)).toArray
def pgV(l:List UInt8):Value:=.agg (pgC l)
theorem p8(l:List UInt8):(pgC l).size=l.length:=by unfold pgC;rw[List.size_toArray,qz]
theorem Li(l:List UInt8){i:Nat}(hi:i<l.length):(pgC l)[i]? = some (.int .u8 ((l.getD i 0).toNat:Int)):=by
 unfold pgC;rw[List.getElem?_toArray,qu,qj,qD hi];rfl
theorem p9(l:List UInt8):(pgC l).all (·.oneCell')=true:=by
 unfold pgC;rw[List.all_toArray,List.all_eq_true];intro x a;obtain⟨c,_,rfl⟩:=qP.1 a;rfl
def dR: Value->Option UInt8
 | .int .u8 n=>if n=((UInt8.ofNat n.toNat).toNat:Int) then some (UInt8.ofNat n.toNat) else none
 | _=>none
theorem Lo(c:UInt8):dR (.int .u8 (c.toNat:Int))=some c:=by simp[dR]
theorem Lw{v:Value}{c:UInt8}(h:dR v=some c):v=.int .u8 (c.toNat:Int):=by
 unfold dR at h;split at h
 ·rename_i n;split at h
  ·rename_i e;injection h with h;rw[<-h,<-e]
  ·cases h
 ·cases h
def pgR: Value->Option (DataW Unit × List MemPlace)
 | .agg cs=>(cs.toList.mapM dR).map fun l=>(.lit (.string l),[])
 | _=>none
theorem VS: ∀l:List UInt8,(l.map fun c=>Value.int .u8 (c.toNat:Int)).mapM dR=some l
 | []=>rfl
 | c::l=>by rw[List.map_cons,List.mapM_cons,Lo,VS l];rfl
theorem VT: ∀ {cs:List Value} {l:List UInt8},cs.mapM dR=some l->cs=l.map fun c=>Value.int .u8 (c.toNat:Int)
 | [],l,h=>by rw[List.mapM_nil]at h;injection h with h;rw[<-h];rfl
 | v::cs,l,h=>by
   rw[List.mapM_cons]at h;cases e1:dR v with
   | none=>rw[e1]at h;cases h
   | some c =>
     cases e2:cs.mapM dR with
     | none=>rw[e1,e2]at h;cases h
     | some m =>
       rw[e1,e2]at h;injection h with h;rw[<-h,List.map_cons,<-VT e2,<-Lw e1]
theorem MQ(l:List UInt8):pgR (pgV l)=some (.lit (.string l),[]):=by
 show((pgC l).toList.mapM dR).map _=_;unfold pgC;rw[List.toList_toArray,VS];rfl
theorem MX{v:Value}{y:DataW Unit × List MemPlace}(h:pgR v=some y):∃l,v=pgV l/\y=(.lit (.string l),[]):=by
 unfold pgR at h;split at h
 ·rename_i cs;cases e:cs.toList.mapM dR with
  | none=>rw[e]at h;cases h
  | some l =>
    rw[e]at h;injection h with h;refine⟨l, ?_,h.symm⟩;unfold pgV pgC;rw[<-VT e,Array.toArray_toList]
 ·cases h
def mu(k:Nat):Lit:=.int .i64 (k:Int)
theorem V0{a b:Nat}(h:mu a=mu b):a=b:=by unfold mu at h;injection h with _ h;omega
theorem V4{k:Nat}(h:k<=1000000):keyOf prog 3 (.int .i64 (k:Int))=some (mu k):=Maps.keyOf_int_mk Tryz.underlying3 (WalkArith.wf_i64 (by omega))
theorem MZ(k:Nat):WideAt.IsKeyLit (mu k):=trivial
theorem V5: Keyed prog 3:=Maps.int_keyed Tryz.underlying3
theorem V6(w:World):(zeroValue 335).run prog w=.ok (pgV (List.replicate 60 0)) w:=by kernel_rfl
theorem tQ: (prog.info? 335).map (·.size)=some 60:=by kernel_rfl
def pgB(t:Tw)(k:Nat):List UInt8:=(pgT t (k+1)).data.toList.take 60
theorem V7{t:Tw}{k:Nat}(h:pgW t (k+1)=true):(pgB t k).length=60:=by
 unfold pgB;rw[qT,dX,XR (XS.1 h).1];decide
theorem MJ{t:Tw}{k:Nat}(x:Nat)(b:k=x/480):(pgB t k).getD (x/8%60) 0=byT t x:=by
 have a:x/8%60<60:=Nat.mod_lt _ (by decide);unfold pgB byT;rw[qj,qj,List.getElem?_take,qV a,Lv _ _ _ (by omega),b]
structure MK(D0:DataW Unit)(t:Tw)(m:Nat):Prop where
 yes:∀k,k<m->pgW t (k+1)=true->∀zd,D0.atKey (mu k) zd=.lit (.string (pgB t k))
 no:∀k,m<=k∨pgW t (k+1)=false->Maps.has D0 (mu k)=false
def yX(w:World)(mb:Nat)(t:Tw)(m:Nat):Prop:=∃a,w.ownsMap prog 3 pgR mb m a/\Maps.IsMap a/\MK a t m
section
variable {w w':World}{mb m:Nat}{t:Tw}
theorem yX.lt(h:yX w mb t m):mb<w.1.size:=by
 obtain⟨b,a,c⟩:=h;exact a.lt
theorem yX.of_block(h:yX w mb t m)(e:w'.heap[mb]? = w.heap[mb]?):yX w' mb t m:=by
 obtain⟨a,⟨c,b,f,r⟩,d⟩:=h;exact⟨a,⟨c,b,e.trans f,r⟩,d⟩
theorem yX.below(h:yX w mb t m)(a:Below w.1.size w w'):yX w' mb t m:=h.of_block (a.block _ h.lt)
theorem yX.new(w:World)(t:Tw):yX (w.alloc (.map #[] 0)) w.1.size t 0 :=
 ⟨.map [],World.ownsMap_made w _ _ _,⟨[],rfl⟩,fun k a=>by omega,fun k _=>rfl⟩
theorem yX.skip(h:yX w mb t m)(g:pgW t (m+1)=false):yX w mb t (m+1):=by
 obtain⟨c,d,f,b⟩:=h;refine⟨c,d.mono (Nat.le_succ m),f,fun k a hw=>?_,fun k a=>?_⟩
 ·by_cases e:k=m
  ·rw[e,g]at hw;cases hw
  ·exact b.yes k (by omega) hw
 ·refine b.no k ?_;rcases a with a|a
  ·exact qX (by omega)
  ·exact qY a
theorem yX.look(h:yX w mb t m){k:Nat}(r:k<=1000000):
  (Instr.lookup 235 (.map (some mb)) (.int .i64 (k:Int)) true).run prog w=.ok (.tuple #[pgV (if k<m/\pgW t (k+1)=true then pgB t k else List.replicate 60 0),.bool (decide (k<m)&&pgW t (k+1))]) w:=by
 obtain⟨s,⟨z,u,q,F,_,rfl⟩,A,g⟩:=h;rcases Maps.fit_look true V5 Tryz.underlying235 (V6 w) q F (V4 r) with⟨i,_,d⟩|⟨v,y,_,_,i,p,d,_⟩
 ·have n:¬(k<m/\pgW t (k+1)=true):=fun f=>by
   have a:=g.yes k f.1 f.2;have j:=a (.lit (.int .i64 0));rw[d]at j;cases j
  rw[i,qZ n]
  have:(decide (k<m)&&pgW t (k+1))=false:=by
   by_cases c:k<m
   ·rw[qB c,Bool.true_and];exact Bool.eq_false_iff.2 (fun e=>n ⟨c,e⟩)
   ·rw[qA c,Bool.false_and]
  rw[this];rfl
 ·have b:k<m/\pgW t (k+1)=true:=by
   refine Classical.byContradiction fun f=>?_
   have a:=g.no k (by
    by_cases c:k<m
    ·exact qY (Bool.eq_false_iff.2 (fun e=>f ⟨c,e⟩))
    ·exact qX (by omega))
   rw[Maps.has_true_of_atKey d]at a;cases a
  have a:=g.yes k b.1 b.2 (.lit (.int .i64 0));rw[d]at a;obtain⟨l,o,rfl⟩:=MX p;simp only[DataW.lit.injEq,Lit.string.injEq]at a;rw[i,qV b,qB b.1,b.2,o,a];rfl
theorem yX.put(h:yX w mb t m)(l:m<=1000000)(hw:pgW t (m+1)=true):∃w',(Instr.mapUpdate 235 (.map (some mb)) (.int .i64 (m:Int)) (pgV (pgB t m))).run prog w=.ok () w'/\yX w' mb t (m+1)/\w.grownBy w' (some mb):=by
 obtain⟨p,g,c,d⟩:=h;obtain⟨w',o,n,i⟩:=g.update V5 Tryz.underlying235 (by unfold maxLen;omega) (V4 l) (MQ (pgB t m));refine⟨w',o,⟨_,n,c.put _ _,fun k a j=>?_,fun k a=>?_⟩,i⟩
 ·intro f;by_cases e:k=m
  ·subst e;exact Maps.atKey_put_same c (MZ k) _ f
  ·rw[Maps.atKey_put_other (fun b=>e (V0 b))];exact d.yes k (by omega) j f
 ·by_cases e:k=m
  ·subst e;rcases a with a|a
   ·omega
   ·rw[hw]at a;cases a
  ·rw[Maps.has_put_other (fun b=>e (V0 b))];refine d.no k ?_;rcases a with a|a
   ·exact qX (by omega)
   ·exact qY a
end
def gY(w:World)(f:Value)(t:Tw):Prop :=
 (yr t=false/\f=.agg #[.int .i64 0,.int .i64 0,.map none]) ∨
 (yr t=true/\∃mb,f=.agg #[.int .i64 (hpT t:Nat),.int .i64 (hnT t:Nat),.map (some mb)]/\yX w mb t (hnT t/60))
theorem gY.below{w w':World}{f:Value}{t:Tw}(h:gY w f t)(a:Below w.1.size w w'):gY w' f t:=by
 rcases h with h|⟨h,mb,e,b⟩
 ·exact qX h
 ·exact qY ⟨h,mb,e,b.below a⟩
theorem gY.none(w:World):gY w (.agg #[.int .i64 0,.int .i64 0,.map none]) ByteArray.empty:=qX ⟨X6 (by decide),rfl⟩
end
section
open Go.RowKit
theorem tX{a b:Int}(h:a=b):Value.int .u64 a=.int .u64 b:=by rw[h]
theorem pq{a b:Int}(h:a=b):Ending.returned (.int .u64 a)=.returned (.int .u64 b):=by rw[h]
theorem V8(x:Nat)(a:x<18446744073709551616):IntKind.u64.wrap (bits .xor .u64 (x:Int) ((x:Int)/4294967296)*11400714819323198485)=((lP x:Nat):Int):=mixStep_u64 x 4294967296 11400714819323198485 a
theorem V9(x:Nat):bits .xor .u64 ((lP x:Nat):Int) (((lP x:Nat):Int)/536870912)=((nT x:Nat):Int):=xorShift_u64 (lP x) 536870912 (XZ x)
theorem MV(x:Nat)(w:World)(a:x<18446744073709551616):
  Calls prog 173 #[.int .u64 (x:Nat)] w (X0 (.int .u64 (nT x:Nat)) w):=by
 go_enter func173,ntmps173;go_wp2;go_ret;exact⟨pq (by rw[V8 x a,V9]),rfl⟩
theorem MY: bits .and .u64 (IntKind.u64.wrap (-17)) 63=47:=by decide +kernel
theorem MU(x:Nat)(a:x<18446744073709551616):x*140737488355328%18446744073709551616|||x/131072=cO x:=by
 have e:x*140737488355328%18446744073709551616=x%131072*140737488355328:=by omega
 have h:=nat_join 47 (x%131072*140737488355328) (x/131072) (Nat.mul_mod_left _ _) (by omega);rw[e,h];unfold cO;omega
theorem MG(x:Nat)(c:x<18446744073709551616):bits .or .u64 (IntKind.u64.wrap ((x:Int)*140737488355328)) ((x:Int)/131072)=((cO x:Nat):Int):=by
 have a:IntKind.u64.wrap ((x:Int)*140737488355328)=((x*140737488355328%18446744073709551616:Nat):Int):=by
  rw[IntKind.wrap_u64];omega
 have b:(x:Int)/131072=((x/131072:Nat):Int):=by omega
 rw[a,b,u64_or_nat _ _ (by omega) (by omega),MU x c]
theorem MW(x:Nat)(w:World)(a:x<18446744073709551616):
  Calls prog 312 #[.int .u64 (x:Nat),.int .i64 (-17)] w (X0 (.int .u64 (cO x:Nat)) w):=by
 have b:=MY;go_enter func312,ntmps312;go_wp2;go_ret;exact⟨pq (MG x a),rfl⟩
theorem MA(x:Nat)(a:x<18446744073709551616):bits .or .u64 ((cO x:Nat):Int) 1=((dM x:Nat):Int):=by
 have h:=u64_or_nat (cO x) 1 (XK a) (by decide);rw[FN]at h;exact h
theorem MB(x:Nat)(w:World)(a:x<18446744073709551616):
  Calls prog 296 #[.int .u64 (x:Nat)] w (X0 (.int .u64 (dM x:Nat)) w):=by
 have h:=qQ (fun w=>MW x w a);have c:=XK a;have b:=qQ (MA x a);generalize cO x=r at*;go_enter func296,ntmps296;go_wp2_with fail;refine X5 (h.out _) ?_;go_wp2;go_ret;exact⟨pq b.out,rfl⟩
theorem Vq(y c:Nat)(b:y<18446744073709551616)(a:c<256):IntKind.u64.wrap (bits .xor .u64 (y:Int) (c:Int)*1099511628211)=((hst y c:Nat):Int):=by
 rw[u64_xor_nat y c b (FF a),IntKind.wrap_u64,FH,Int.natCast_emod,Int.natCast_mul];rfl
theorem Vx(s:Nat)(a:s<18446744073709551616):bits .xor .u64 14695981039346656037 (s:Int)=((mP^^^s:Nat):Int):=u64_xor_nat 14695981039346656037 s (by decide) a
theorem MC(x:Nat)(s:Tw)(w:World)(j:x<18446744073709551616)(r:s.size<=maxLen):
  Calls prog 109 #[.int .u64 (x:Nat),s] w (X0 (.int .u64 (kX x s.data.toList:Nat)) w):=by
 unfold maxLen at r;by_cases f:x=0
 ·subst f;go_enter func109,ntmps109;go_wp2;go_ret;exact⟨rfl,rfl⟩
 ·have u:((x:Int)==0)=false:=by simp;omega
  have z:=Vx x j;have q:=xlt KT j;have g:kX x s.data.toList=nT (ym (mP^^^x) s.data.toList):=by unfold kX;rw[qZ f]
  generalize mP^^^x=b at*;have l:=qQ g;clear g;go_enter func109,ntmps109;go_wp2
  go_loop [5,13] (fun a i=>∃k:Nat,k<=s.size/\i=.int .i64 k/\a=.int .u64 (ym b (s.data.toList.take k):Nat)) (fun _ i=>s.size-(intOf i).toNat)
  case atStart=>exact⟨0,by omega,rfl,tX (by rw[List.take_zero,sP])⟩
  case round =>
   obtain⟨k,v,rfl,rfl⟩:=hrel;have d:ym b (s.data.toList.take k)<18446744073709551616:=KS _ q;by_cases p:k<s.size
   ·have c:=qQ (sN s k p);have n:=qQ (KR b (s.data.toList.take k) s[k]);have o:=(s[k]).toNat_lt;generalize ym b (s.data.toList.take k)=y at*;go_wp2
    go_round
    case rel=>exact⟨k+1,by omega,by go_num,tX (by rw[c.out,n.out];exact Vq y _ d o)⟩
    case measure=>simp[intOf];omega
   ·obtain rfl:k=s.size:=(by omega);have c:List.take s.size s.data.toList=s.data.toList:=qp (by simp);rw[c]at d ⊢;clear c;generalize ym b s.data.toList=y at*;have h:=qQ (fun w=>MV y w d);go_wp2_with fail;refine X5 (h.out _) ?_;go_wp2;go_ret;exact⟨pq (by rw[l.out]),rfl⟩
theorem MD(x:Nat)(s:Tw)(w:World)(j:x<18446744073709551616)(r:s.size<=maxLen):
  Calls prog 35 #[.int .u64 (x:Nat),s] w (X0 (.int .u64 (kX x s.data.toList:Nat)) w):=by
 unfold maxLen at r;by_cases f:x=0
 ·subst f;go_enter func35,ntmps35;go_wp2;go_ret;exact⟨rfl,rfl⟩
 ·have B:((x:Int)==0)=false:=by simp;omega
  have F:=Vx x j;have q:=xlt KT j;have g:kX x s.data.toList=nT (ym (mP^^^x) s.data.toList):=by unfold kX;rw[qZ f]
  generalize mP^^^x=b at*;have l:=qQ g;clear g;go_enter func35,ntmps35;go_wp2
  go_loop [5,6] (fun a i=>∃k:Nat,k<=s.size/\i=.int .i64 k/\a=.int .u64 (ym b (s.data.toList.take k):Nat)) (fun _ i=>s.size-(intOf i).toNat)
  case atStart=>exact⟨0,by omega,rfl,tX (by rw[List.take_zero,sP])⟩
  case round =>
   obtain⟨k,C,rfl,rfl⟩:=hrel;have d:ym b (s.data.toList.take k)<18446744073709551616:=KS _ q;by_cases p:k<s.size
   ·have c:=qQ (sN s k p);have n:=qQ (KR b (s.data.toList.take k) s[k]);have o:=(s[k]).toNat_lt;generalize ym b (s.data.toList.take k)=y at*;go_wp2
    go_round
    case rel=>exact⟨k+1,by omega,by go_num,tX (by rw[c.out,n.out];exact Vq y _ d o)⟩
    case measure=>simp[intOf];omega
   ·obtain rfl:k=s.size:=(by omega);have c:List.take s.size s.data.toList=s.data.toList:=qp (by simp);rw[c]at d ⊢;clear c;generalize ym b s.data.toList=y at*;have u:=V8 y d;have v:=V9 y;have A:=XZ y;generalize lP y=z at*;go_wp2;go_ret;exact⟨pq (by rw[l.out]),rfl⟩
theorem ME(h n m:Nat)(a:h<18446744073709551616)(b:0<m):prb h (n:Nat) (m:Nat)=(h+n*dM h%18446744073709551616)%18446744073709551616%m:=by
 unfold prb;rw[qZ (by omega),qm,qm];congr 1;omega
theorem MF(h n m s:Nat)(b:h<18446744073709551616)(f:n<9223372036854775808)(d:m<9223372036854775808)(a:0<m)(c:dM h=s):
  wrap64 (Int.tmod (IntKind.u64.wrap ((h:Int)+IntKind.u64.wrap ((n:Int)*(s:Int)))) (m:Int))=((prb h (n:Nat) (m:Nat):Nat):Int):=by
 rw[ME h n m b a,c,IntKind.wrap_u64,IntKind.wrap_u64,<-Int.natCast_mul];have e:((h:Int)+((n*s:Nat):Int)%18446744073709551616)%18446744073709551616=(((h+n*s%18446744073709551616)%18446744073709551616:Nat):Int):=by omega
 rw[e];generalize (h+n*s%18446744073709551616)%18446744073709551616=x;rw[<-Int.ofNat_tmod];have:=Nat.mod_lt x a;generalize x%m=y at*;unfold wrap64;omega
theorem Vz(h:Nat)(i b:Int)(w:World)(a:h<18446744073709551616)(j:(Lit.int .i64 i).wf=true)(g:(Lit.int .i64 b).wf=true):
  Calls prog 259 #[.int .u64 (h:Nat),i,b] w (X0 (.int .i64 (prb h i b:Nat)) w):=by
 have l:=bounds_i64 j;have k:=bounds_i64 g;by_cases c:b<1
 ·have e:prb h i b=0:=by unfold prb;rw[qV (qX c)]
  rw[e];go_enter func259,ntmps259;go_wp2;go_ret;exact⟨rfl,rfl⟩
 ·by_cases d:i<0
  ·have e:prb h i b=0:=(by unfold prb;rw[qV (qY d)]);rw[e];go_enter func259,ntmps259;go_wp2;go_ret;exact⟨rfl,rfl⟩
  ·obtain⟨n,rfl⟩:∃n:Nat,i=n:=⟨i.toNat,by omega⟩
   obtain⟨m,rfl⟩:∃m:Nat,b=m:=⟨b.toNat,by omega⟩
   have f:=qQ fun w=>MB h w a
   have o:=FM a;have hw:=qQ (MF h n m (dM h) a (by omega) (by omega) (by omega) rfl);generalize dM h=s at*;generalize prb h (n:Nat) (m:Nat)=r at*;have p:((m:Int)==0)=false:=(by simp;omega);go_enter func259,ntmps259;go_wp2_with fail;refine X5 (f.out _) ?_;go_wp2;go_ret;refine⟨mL ?_,rfl⟩;exact hw.out
theorem MH(k:Nat)(w:World)(a:k<9223372036854775808):
  Calls prog 267 #[k] w (X0 (.int .u8 (2 ^ (k%8):Nat)) w):=by
 go_enter func267,ntmps267;go_wp2;go_ret;refine⟨mL ?_,rfl⟩;have h:=XU (Nat.mod_lt k (by decide):k%8<8);have e:(2:Int) ^ (k%8)=((2 ^ (k%8):Nat):Int):=by rw[Int.natCast_pow];rfl
 rw[e];generalize 2 ^ (k%8)=x at*;omega
theorem MI{m:Nat}:∀wx:World,(convert 154 9 (.slice (some ⟨wx.1.size,0,none⟩) 1 1)).run prog (wx.alloc (.cells #[.int .u8 ((m:Int)%256)] 5))=.ok (.string (bs [UInt8.ofNat m])) (wx.alloc (.cells #[.int .u8 ((m:Int)%256)] 5)):=fun wx=>by
 refine run_convert_bytes_back (P:=prog) _ 154 9 5 ⟨wx.1.size,0,none⟩ 1 [UInt8.ofNat m] Tryz.underlying154 Tryz.underlying5 Tryz.underlying9 (fun j a=>?_);obtain rfl:j=0:=by simpa using a
 have e:(⟨wx.1.size,0,none⟩:Addr).add 0=⟨wx.1.size,0,none⟩:=by simp[Addr.add]
 rw[e,World.cell?_alloc_at _ _ _ _ rfl];simp
theorem Vj(n N:Nat)(w:World)(j:1<=N)(l:N<=8)(v:n<18446744073709551616):
  Calls prog 102 #[.int .u64 (n:Nat),N] w (X3 (.string (bs (be N n))) w):=by
 go_enter func102,ntmps102;go_wp2;go_loopw [0,5,6] (fun m s i wr=>∃k:Nat,k<=N/\i=.int .i64 k/\m=.int .u64 (n/256 ^ k:Nat)/\s=.string (bs (be k n))/\Below w.1.size w wr) (fun _ _ i _=>N-(intOf i).toNat)
 case atStart=>exact⟨0,qI _,rfl,by simp,rfl,qU _ _⟩
 case round =>
  obtain⟨k,q,rfl,rfl,rfl,c⟩:=hrel;by_cases r:k<N
  ·obtain⟨m,a⟩:∃m,n/256 ^ k=m:=⟨_,rfl⟩
   have d:UInt8.ofNat m::be k n=be (k+1) n:=(by rw[be,a]);have f:n/256 ^ (k+1)=m/256:=(by rw[Nat.pow_succ,<-Nat.div_div_eq_div_mul,a]);have p:=MI (m:=m)
   have o:∀b:World,(Op.stringOp .add (bs [UInt8.ofNat m]) (bs (be k n))).run prog b=.ok (.string (bs (be (k+1) n))) b:=fun b=>by
    have h:=run_string_add_sum (P:=prog) (w:=b) (bs [UInt8.ofNat m]) (bs (be k n)) (by rw[kK,kK,jn];simp;omega);rw[cZ,List.singleton_append,d]at h;exact h
   have u:m<=18446744073709551615:=(by rw[<-a];exact qR (Nat.div_le_self _ _) (by omega));rw[a];have g:=qQ f;clear a f d;go_wp2;go_roundw
   case rel=>exact⟨k+1,by omega,by go_num,by rw[g.out];go_num,rfl,c.alloc c.size _⟩
   case measure=>simp[intOf];omega
  ·obtain rfl:k=N:=(by omega);go_wp2;go_ret;exact⟨rfl,c⟩
def dS(d:Nat->Value)(w:World)(v:Value)(l:List Nat):Prop :=
 (l=[]/\∃a c,v=.slice a 0 c) ∨
 (0<l.length/\∃b off c,v=.slice (some ⟨b,off,none⟩) l.length c/\l.length<=c/\b<w.1.size/\∀i,i<l.length->w.cell? ⟨b,off+i,none⟩=some (d (l.getD i 0)))
def gP(n:Nat):Value:=.int .u64 (n:Int)
theorem dS.xz{w:World}{base:Nat}{e:TypeId}{v:Value}{l:List Nat}(d:Nat->Value)(h:w.ownsRow base e 1 v l.length (l.map d)):dS d w v l:=by
 have b:=h;rcases h.2 with⟨a,j⟩|⟨g,f,q,a,r,k,p,s,u,y⟩
 ·exact qX ⟨xK.1 j,none,0,a⟩
 ·by_cases c:l=[]
  ·subst c;exact qX ⟨rfl,_,_,a⟩
  ·refine qY ⟨List.length_pos_iff.2 c,g,0,f,a,p, ?_,fun i n=>?_⟩
   ·obtain⟨o,_⟩:=ql.1 k;exact o
   ·rw[a]at b;rw[qa,b.cellAt i (by omega),qu,qj,qD n];rfl
theorem ML{l:List Nat}(h:XW l)(k:Nat):l.getD k 0<18446744073709551616:=by
 by_cases a:k<l.length
 ·rw[qj,qD a];exact h _ (List.getElem_mem a)
 ·rw[qj,xX (by omega)];exact(by decide:(0:Nat)<18446744073709551616)
theorem MM(l:List Nat)(k:Nat)(h:k<l.length):l.take (k+1)=l.take k++[l.getD k 0]:=by
 rw[qw,qD h,qj,qD h];rfl
theorem MN{a b:Nat}(d:a<18446744073709551616)(f:b<18446744073709551616):(FloatKind.f64.format.order a b==some Ordering.lt)=(!ki a&&!ki b&&decide (sr a<sr b)):=by
 show(Ieee.double.order a b==some Ordering.lt)=_;rw[Kb d f];cases ki a<;>cases ki b<;>simp[compare,compareOfLessAndEq];by_cases h:sr a<sr b
 ·simp[h]
 ·by_cases c:sr a=sr b<;>simp[h,c]
theorem Vk{a b:Nat}(d:a<18446744073709551616)(f:b<18446744073709551616):(FloatKind.f64.format.order a b==some Ordering.eq)=(!ki a&&!ki b&&decide (sr a=sr b)):=by
 show(Ieee.double.order a b==some Ordering.eq)=_;rw[Kb d f];cases ki a<;>cases ki b<;>simp[compare,compareOfLessAndEq];by_cases h:sr a<sr b
 ·have:¬sr a=sr b:=by omega
  simp[h,this]
 ·by_cases c:sr a=sr b<;>simp[c,h]
theorem MO{a:Nat}(b:a<18446744073709551616):(FloatKind.f64.format.order a a==some Ordering.eq) = !ki a:=by
 rw[Vk b b];cases ki a<;>simp
theorem MP{a b:Nat}:(FloatKind.f64.format.order a b != some Ordering.eq) = !(FloatKind.f64.format.order a b==some Ordering.eq):=rfl
theorem MR{a b:Nat}(d:a<18446744073709551616)(f:b<18446744073709551616):(FloatKind.f64.format.order a b==some Ordering.lt||FloatKind.f64.format.order a b==some Ordering.eq)=(!ki a&&!ki b&&decide (sr a<=sr b)):=by
 rw[MN d f,Vk d f];cases ki a<;>cases ki b<;>simp;by_cases h:sr a<sr b
 ·simp[h,Int.le_of_lt h]
 ·by_cases c:sr a=sr b
  ·simp[c]
  ·have g:¬sr a<=sr b:=(by omega);simp[h,c,g]
end
end Go.Proofs.YthejglbnkmimjaaGreat

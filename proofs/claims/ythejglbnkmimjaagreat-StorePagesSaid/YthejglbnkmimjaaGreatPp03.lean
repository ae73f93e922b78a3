import Derived.Test.YthejglbnkmimjaaGreatPp01
import Derived.Test.YthejglbnkmimjaaGreatPp02
import Derived.Deep.DeepCutAuto
import Derived.Deep.RegionHeld3
import Derived.Deep.RegionLaw
import Derived.Deep.CutBlock
import Derived.Deep.WholeRow
set_option linter.unusedVariables false
set_option maxRecDepth 100000
set_option maxHeartbeats 9000000
namespace Go.Proofs.YthejglbnkmimjaaGreat
open Proofs.Tryz
section
open Go.RowKit
def tV(l:List Int):List Value:=l.map (Value.int .i64)
theorem Xj{l:List jO}{k:Nat}(h:k<l.length):∃f,l[k]? = some f:=⟨l[k],qE h⟩
theorem Lq{l:List jO}{n:Tw}{k:Nat}{f:jO}(h:l[k]? = some f)(a:f.name=n):jx l n<=k:=by
 unfold jx;have b:k<l.length:=(qO.1 h).1;rcases qd k (l.findIdx (fun f=>decide (f.name=n))) with c|c
 ·have:=List.not_of_lt_findIdx c;rw[qE b]at h;have e:l[k]=f:=by simpa using h
  rw[e]at this;simp[a]at this
 ·exact c
theorem mh{l:List jO}{n:Tw}(h:jx l n<l.length):∃f,l[jx l n]? = some f/\f.name=n:=by
 have a:l.findIdx (fun f=>decide (f.name=n))<l.length:=h;have:=List.findIdx_getElem (w:=a);exact⟨l[jx l n],qE h,of_decide_eq_true this⟩
theorem tY(l:List jO)(k:Nat)(h:jO->jO):(kq l k h).length=l.length:=by unfold kq;simp
def ph(w:World)(v:Value)(l:List Int):Prop :=
 (l=[]/\∃a c,v=.slice a 0 c)∨∃b off d cs f,v=.slice (some ⟨b,off,none⟩) l.length d/\l.length<=d/\d<=maxLen/\w.heap[b]? = some (.cells cs 3 f)/\∀i x,l[i]? = some x->cs[off+i]? = some (.int .i64 x)
theorem ph.jC{w:World}{base:Nat}{v:Value}{l:List Int}(h:w.ownsRow base 3 1 v l.length (tV l)):ph w v l:=by
 rcases h.2 with⟨rfl,e⟩|⟨b,c,cs,rfl,_,d,f,g,_,j⟩
 ·exact qX ⟨List.eq_nil_of_length_eq_zero e,none,0,rfl⟩
 ·refine qY ⟨b,0,c,cs,(0,0),rfl,f,g,d,fun i x a=>?_⟩;have k:i<l.length:=(qO.1 a).1;have e:(tV l)[i]? = some (.int .i64 x):=by unfold tV;rw[qv,a];rfl
  rw[<-j,List.getElem?_take,qV (by omega)]at e;simpa using e
theorem VC(l:List jO)(k j:Nat)(h:jO->jO):(kq l k h)[j]? = if j=k then(l[j]?).map h else l[j]? := by
 unfold kq;rw[List.getElem?_modify];by_cases e:j=k
 ·subst e;simp
 ·rw[qZ e];have a:¬k=j:=fun x=>e x.symm
  cases l[j]?<;>simp[a]
theorem Lx{f:jO}{x:Int}(a:f.synced<=f.data.size):(gX f x).data.size=lq f x:=by
 show(f.data.extract 0 (lq f x)).size=_;rw[qk];unfold lq;omega
structure tU(D:jL):Prop where
 xq:∀f∈D.l,f.synced<=f.data.size/\f.data.size<=1048576
 many:D.l.length<=400
 used:j4 D.l<=1048576
 cap:D.cap<=1048576
 fails:D.fails<=1099511627777
theorem VD{l:List jO}{n:Tw}(h:¬jx l n<l.length):l[jx l n]? = none:=xX (by omega)
theorem Lz(l:List jO)(n:Tw):yD l n<=l.length:=List.findIdx_le_length
theorem Xk{l:List jO}{f:jO}(h:f∈l):f.data.size<=j4 l:=by
 induction l with
 | nil=>cases h
 | cons x l a =>
   have e:j4 (x::l)=x.data.size+j4 l:=(by unfold j4;simp);rcases qM.1 h with rfl|h
   ·omega
   ·have:=a h;omega
theorem oJ(l:List jO):∀(k:Nat) (f:jO) (h:jO->jO),l[k]? = some f->j4 (kq l k h)+f.data.size=j4 l+(h f).data.size:=by
 induction l with
 | nil=>intro k f h a;simp at a
 | cons x l c =>
   intro k f h a;have e:∀x l,j4 (x::l)=x.data.size+j4 l:=fun x l=>by unfold j4;simp
   cases k with
   | zero =>
     obtain rfl:x=f:=(by simpa using a);have b:kq (x::l) 0 h=h x::l:=rfl;rw[b,e,e];omega
   | succ k =>
     have b:kq (x::l) (k+1) h=x::kq l k h:=rfl;have:=c k f h (by simpa using a);rw[b,e,e];omega
theorem VE{l:List jO}{k:Nat}{h:jO->jO}{x:jO}(c:x∈kq l k h):x∈l∨∃f,l[k]? = some f/\x=h f:=by
 obtain⟨j,a⟩:=ql c;rw[VC]at a;by_cases e:j=k
 ·subst e;rw[qV rfl]at a;cases b:l[j]? with
  | none=>rw[b]at a;cases a
  | some f=>rw[b]at a;exact qY ⟨f,rfl,by simpa using a.symm⟩
 ·rw[qZ e]at a;exact qX (qN a)
theorem tU.app{D:jL}(h:tU D){k:Nat}{f:jO}(d:D.l[k]? = some f)(s:Tw)(j:j4 D.l+s.size<=D.cap):tU { D with l:=kq D.l k (fun f=>{ f with data:=f.data++s }) }:=by
 have n:j4 (kq D.l k (fun f=>{ f with data:=f.data++s }))+f.data.size=j4 D.l+(f.data++s).size:=oJ D.l k f (fun f=>{ f with data:=f.data++s }) d;have p:(f.data++s).size=f.data.size+s.size:=qy;have i:=h.cap;have o:j4 (kq D.l k (fun f=>{ f with data:=f.data++s }))=j4 D.l+s.size:=by omega
 refine⟨fun x a=>?_,by show(kq _ _ _).length<=_;rw[tY];exact h.many,by show j4 (kq _ _ _)<=_;omega,h.cap,h.fails⟩;have g:x.data.size<=j4 (kq D.l k (fun f=>{ f with data:=f.data++s })):=Xk a;refine⟨?_,by omega⟩;rcases VE a with a|⟨b,c,rfl⟩
 ·exact(h.xq x a).1
 ·have:=(h.xq b (qN c)).1;show b.synced<=(b.data++s).size;rw[qy];omega
theorem Lj{D:jL}{n:Tw}{a k:Int}(b:D.down=true):kM D n a k=(ByteArray.empty,61,D):=by
 unfold kM;rw[qV b]
def tG(D:jL):jL:={ D with count:=D.count+1 }
theorem Lv{D:jL}{n:Tw}{a k:Int}(b:D.down=false)(c:¬jx D.l n<D.l.length):kM D n a k=(ByteArray.empty,4,tG D):=by
 unfold kM;rw[qZ (by rw[b];decide)];simp only[VD c];rfl
theorem Ly{D:jL}{n:Tw}{a k:Int}{f:jO}(c:D.down=false)(d:D.l[jx D.l n]? = some f)(b:a<0∨k<0∨(f.data.size:Int)<a∨(f.data.size:Int)-a<k):kM D n a k=(ByteArray.empty,2,tG D):=by
 unfold kM;rw[qZ (by rw[c];decide)];simp only[d];rw[qV b];rfl
theorem Lu{D:jL}{n:Tw}{a k:Int}{f:jO}(c:D.down=false)(d:D.l[jx D.l n]? = some f)(b:¬(a<0∨k<0∨(f.data.size:Int)<a∨(f.data.size:Int)-a<k)):kM D n a k=(f.data.extract a.toNat (a.toNat+k.toNat),0,tG D):=by
 unfold kM;rw[qZ (by rw[c];decide)];simp only[d];rw[qZ b];rfl
theorem Xv{P:Program}(x y:Int)(m:Nat)(h:(m:Int)=if y<x then y else x):∀a t w,(Builtin.min_ a t #[x,y]).run P w=.ok (.int .i64 (m:Nat)) w:=fun a t w=>by
 rw[run_min_int2,h]
theorem Lg{D:jL}{n:Tw}(a:D.down=false)(b:jx D.l n<D.l.length):jh D n=if yG D then(0, { cZ D with l:=kr D.l (jx D.l n) }) else(61,uc D D.keep):=by
 unfold jh y9;rw[qZ (by rw[a];decide),qV b];rfl
theorem Lb{D:jL}{n:Tw}(a:D.down=false)(b:¬jx D.l n<D.l.length):jh D n=(4,D):=by
 unfold jh;rw[qZ (by rw[a];decide),qZ b]
theorem Ld{D:jL}{n:Tw}(a:D.down=true):jh D n=(61,D):=by
 unfold jh;rw[qV a]
theorem Lh{D:jL}{n:Tw}(a:D.down=true):jk D n=(61,D):=by
 unfold jk;rw[qV a]
theorem Ll{D:jL}{n:Tw}(a:D.down=false)(b:vY n=false):jk D n=(2,D):=by
 unfold jk;rw[qZ (by rw[a];decide),b,qV (by decide)]
theorem Lm{D:jL}{n:Tw}(a:D.down=false)(c:vY n=true)(b:jx D.l n<D.l.length):jk D n=(62,D):=by
 unfold jk;rw[qZ (by rw[a];decide),c,qZ (by decide),qV b]
theorem Ln{D:jL}{n:Tw}(a:D.down=false)(d:vY n=true)(b:¬jx D.l n<D.l.length)(c:400<=D.l.length):jk D n=(60,D):=by
 unfold jk;rw[qZ (by rw[a];decide),d,qZ (by decide),qZ b,qV c]
theorem Lp{D:jL}{n:Tw}(a:D.down=false)(d:vY n=true)(b:¬jx D.l n<D.l.length)(c:¬400<=D.l.length):
  jk D n=if yG D then(0, { cZ D with l:=kO D.l ⟨n,ByteArray.empty,0⟩ }) else(61,uc D D.keep):=by
 unfold jk y9;rw[qZ (by rw[a];decide),d,qZ (by decide),qZ b,qZ c];rfl
theorem Lr{D:jL}{n b:Tw}(a:D.down=true):vj D n b=(61,D):=by
 unfold vj;rw[qV a]
theorem Lt{D:jL}{n c:Tw}(a:D.down=false)(b:¬jx D.l n<D.l.length):vj D n c=(4,D):=by
 unfold vj;rw[qZ (by rw[a];decide),qZ b]
theorem La{D:jL}{n a:Tw}(b:D.down=false)(c:jx D.l n<D.l.length)(d:vY a=false):vj D n a=(2,D):=by
 unfold vj;rw[qZ (by rw[b];decide),qV c,d,qV (by decide)]
theorem Le{D:jL}{n a:Tw}(b:D.down=false)(c:jx D.l n<D.l.length)(d:vY a=true):
  vj D n a=if yG D then(0, { cZ D with l:=if n=a then D.l else fp D.l (jx D.l n) a }) else(61,uc D D.keep):=by
 unfold vj y9;rw[qZ (by rw[b];decide),qV c,d,qZ (by decide)];rfl
def yc(m:List jO)(a:Tw):List jO:=if jx m a<m.length then kr m (jx m a) else m
theorem oK{l:List jO}{i:Nat}{f:jO}{a:Tw}(h:l[i]? = some f):fp l i a=kO (yc (kr l i) a) { f with name:=a }:=by
 unfold fp;rw[h];rfl
theorem pr{l:List jO}{i:Nat}(h:i<l.length):(kr l i).length+1=l.length:=by
 unfold kr;rw[qL,qT,qw];omega
theorem VF(m:List jO)(a:Tw):(yc m a).length<=m.length:=by
 unfold yc;split
 ·rename_i h;have:=pr h;omega
 ·exact qK _
def fV(c:Nat):jL:=⟨c,[],0,false,0,0,[]⟩
theorem ph.xH{w:World}{v:Value}{l:List Int}(h:ph w v l):kN w v l:=by
 rcases h with h|⟨b,off,d,cs,f,g,j,k,a,n⟩
 ·exact qX h
 ·refine qY ⟨b,off,d,g,j,k, ?_,fun i x o=>?_⟩
  ·rcases qd b w.1.size with c|c
   ·exact c
   ·rw[Array.getElem?_eq_none c]at a;cases a
  ·rw[cell_of_row w b (off+i) cs _ f a];exact n i x o
theorem kN.xC{F:List Nat}{w w':World}{v:Value}{l:List Int}(h:kN w v l)(c:jP F w w')(hF:∀b,v.ownBlock=some b->b ∉ F):kN w' v l:=by
 rcases h with h|⟨b,off,d,rfl,f,g,a,j⟩
 ·exact qX h
 ·exact qY ⟨b,off,d,rfl,f,g,qS a c.size,fun i x k=>(c.cell (p:=⟨b,off+i,none⟩) a (hF b rfl)).trans (j i x k)⟩
structure yo(D:jL):Prop where
 xq:∀f∈D.l,f.synced<=f.data.size/\f.data.size<=1048576
 many:D.l.length<=400
 used:j4 D.l<=1048576
 cap:D.cap<=1048576
abbrev j6:= World->Nat->Nat->List Nat->jL->Prop
abbrev ptr(g:Nat):Value:=.pointer (some ⟨g,0,none⟩)
def yq(At:j6)(base g:Nat)(F:List Nat)(w:World)(v:Value)(E:jL)(e:Ending)(w':World):Prop :=
 ∃a,e=.returned v/\At w' base g a E/\(∀x∈a,x∈F∨w.1.size<=x)/\jP F w w'
def uP(w:World)(v:Value)(l:List Tw):Prop :=
 (l=[]/\∃a c,v=.slice a 0 c)∨∃b off d,v=.slice (some ⟨b,off,none⟩) l.length d/\l.length<=d/\d<=maxLen/\b<w.1.size/\∀i x,l[i]? = some x->w.cell? ⟨b,off+i,none⟩=some (.string x)
theorem uP.cell{w:World}{v:Value}{l:List Tw}(h:uP w v l):∃A off d,v=.slice A l.length d/\l.length<=maxLen/\∀i x,l[i]? = some x->∃b,A=some ⟨b,off,none⟩/\w.cell? ⟨b,off+i,none⟩=some (.string x):=by
 rcases h with⟨rfl,a,c,rfl⟩|⟨b,off,d,f,k,n,o,g⟩
 ·exact⟨a,0,c,rfl,qI _,fun i x h=>by simp at h⟩
 ·exact⟨some ⟨b,off,none⟩,off,d,f,by omega,fun i x j=>⟨b,rfl,g i x j⟩⟩
def VH(At:j6)(base g:Nat)(F:List Nat)(w:World)(l:List Tw)(E:jL)(e:Ending)(w':World):Prop :=
 ∃a v,e=.returned v/\uP w' v l/\(∀b,v.ownBlock=some b->w.1.size<=b/\b ∉ a)/\At w' base g a E/\(∀x∈a,x∈F∨w.1.size<=x)/\jP F w w'
def VI(At:j6)(base:Nat)(w:World)(c:Nat)(e:Ending)(w':World):Prop :=
 ∃g F,e=.returned (.tuple #[ptr g,.int .i64 0])/\At w' base g F (fV c)/\(∀x∈F,w.1.size<=x)/\jP [] w w'
abbrev err(n:Nat):Value:=.int .i64 (n:Nat)
structure j8(At:j6):Prop where
 xC:∀ {w w':World} {base g:Nat} {F G:List Nat} {D:jL},At w base g F D->jP G w w'->(∀x∈F,x ∉ G)->At w' base g F D
 low:∀ {w:World} {base g:Nat} {F:List Nat} {D:jL},At w base g F D->∀x∈F,base<=x/\x<w.1.size
 jF : ∀(base c:Nat) (w:World),base<=w.1.size->c<=1048576->Calls prog 24 #[c] w (VI At base w c)
 create:∀ {w:World} {base g:Nat} {F:List Nat} {D:jL} (n:Tw),At w base g F D->yo D->n.size<=maxLen ->
  Calls prog 201 #[ptr g,n] w (yq At base g F w (err (jk D n).1) (jk D n).2)
 append:∀ {w:World} {base g:Nat} {F:List Nat} {D:jL} (n s:Tw),At w base g F D->yo D->s.size<=1099511627776->n.size<=maxLen ->
  Calls prog 203 #[ptr g,n,s] w (yq At base g F w (err (jr D n s).1) (jr D n s).2)
 read:∀ {w:World} {base g:Nat} {F:List Nat} {D:jL} (n:Tw) (a k:Int),At w base g F D->yo D->D.count<=1099511627776->(Lit.int .i64 a).wf=true->(Lit.int .i64 k).wf=true->n.size<=maxLen ->
  Calls prog 130 #[ptr g,n,a,k] w (yq At base g F w (.tuple #[.string (kM D n a k).1,err (kM D n a k).2.1]) (kM D n a k).2.2)
 sync:∀ {w:World} {base g:Nat} {F:List Nat} {D:jL} (n:Tw),At w base g F D->yo D->n.size<=maxLen ->
  Calls prog 160 #[ptr g,n] w (yq At base g F w (err (kJ D n).1) (kJ D n).2)
 rename:∀ {w:World} {base g:Nat} {F:List Nat} {D:jL} (n m:Tw),At w base g F D->yo D->m.size<=maxLen->n.size<=maxLen ->
  Calls prog 245 #[ptr g,n,m] w (yq At base g F w (err (vj D n m).1) (vj D n m).2)
 delete:∀ {w:World} {base g:Nat} {F:List Nat} {D:jL} (n:Tw),At w base g F D->yo D->n.size<=maxLen ->
  Calls prog 125 #[ptr g,n] w (yq At base g F w (err (jh D n).1) (jh D n).2)
 names:∀ {w:World} {base g:Nat} {F:List Nat} {D:jL},At w base g F D->yo D ->
  Calls prog 98 #[ptr g] w (VH At base g F w (D.l.map jO.name) D)
 free:∀ {w:World} {base g:Nat} {F:List Nat} {D:jL},At w base g F D->yo D ->
  Calls prog 177 #[ptr g] w (yq At base g F w (.int .i64 ((D.cap:Int)-(j4 D.l:Nat))) D)
 jH:∀ {w:World} {base g:Nat} {F:List Nat} {D:jL},At w base g F D->Calls prog 151 #[ptr g] w (X0 (.bool (!D.down)) w)
 jD:∀ {w:World} {base g:Nat} {F:List Nat} {D:jL},At w base g F D->Calls prog 75 #[ptr g] w (X0 (.int .i64 (D.xB:Nat)) w)
 zP:∀ {w:World} {base g:Nat} {F:List Nat} {D:jL} (n:Tw),At w base g F D->yo D->n.size<=maxLen->Calls prog 129 #[ptr g,n] w (X0 (.tuple #[.int .i64 ((j9 D n).1:Nat),err (j9 D n).2]) w)
 xI:∀ {w:World} {base g:Nat} {F:List Nat} {D:jL},At w base g F D->D.l.Pairwise (fun f g=>vT f.name g.name=true)/\∀f∈D.l,vY f.name=true
end
section
theorem oV(x:jO)(l:List jO):j4 (x::l)=x.data.size+j4 l:=by unfold j4;simp
theorem tW(a b:List jO):j4 (a++b)=j4 a+j4 b:=by unfold j4;rw[List.map_append,List.sum_append]
theorem VL(l:List jO)(k:Nat):j4 l=j4 (l.take k)+j4 (l.drop k):=by rw[<-tW,qp]
theorem oY(l:List jO)(f:jO):j4 (kO l f)=j4 l+f.data.size:=by
 unfold kO;have h:=VL l (yD l f.name);have a:j4 [f]=f.data.size:=by rw[oV];rfl
 rw[tW,tW,a];omega
theorem pt(l:List jO)(f:jO):(kO l f).length=l.length+1:=by
 unfold kO;have:=Lz l f.name;rw[qL,qL,qT,qw];show min _ _+1+_=_;omega
theorem mn{l:List jO}{f x:jO}(h:x∈kO l f):x∈l∨x=f:=by
 unfold kO at h;rw[qD,qD]at h;rcases h with(h|h)|h
 ·exact qX (List.mem_of_mem_take h)
 ·exact qY (by simpa using h)
 ·exact qX (List.mem_of_mem_drop h)
theorem oU{l:List jO}{i:Nat}{x:jO}(h:x∈kr l i):x∈l:=by
 unfold kr at h;rw[qD]at h;rcases h with h|h
 ·exact List.mem_of_mem_take h
 ·exact List.mem_of_mem_drop h
theorem pw{l:List jO}{i:Nat}{f:jO}(h:l[i]? = some f):j4 (kr l i)+f.data.size=j4 l:=by
 unfold kr;have b:=VL l i;have a:=(qO.1 h).1
 have c:l.drop i=f::l.drop (i+1):=by
  rw[xZ a];congr 1;rw[qE a]at h;simpa using h
 rw[c,oV]at b;rw[tW];omega
theorem VM{l:List jO}{n:Tw}{x:jO}(h:x∈yc l n):x∈l:=by
 unfold yc at h;split at h
 ·exact oU h
 ·exact h
theorem VN(l:List jO)(n:Tw):j4 (yc l n)<=j4 l:=by
 unfold yc;split
 ·rename_i h;obtain⟨f,a⟩:=Xj h;have:=pw a;omega
 ·exact qK _
theorem VO(f:jO)(k:Int):(gX f k).data.size<=f.data.size/\(f.synced<=f.data.size->(gX f k).synced<=(gX f k).data.size):=by
 refine⟨?_,fun h=>by rw[Lx h];exact qK _⟩;show(f.data.extract 0 (lq f k)).size<=_;rw[qk];omega
theorem VP: ∀(l m:List jO),l.length=m.length->(∀(i:Nat) x y,l[i]? = some x->m[i]? = some y->x.data.size<=y.data.size)->j4 l<=j4 m
 | [],[],_,_=>qK _
 | x::l,y::m,h,hp=>by
   rw[oV,oV];have h1:=hp 0 x y rfl rfl;have f:=VP l m (by simpa using h) (fun i a b c d=>hp (i+1) a b (by simpa using c) (by simpa using d));omega
 | [],_::_,h,_=>by simp at h
 | _::_,[],h,_=>by simp at h
theorem VR(l:List jO)(keep:List Int)(j:Nat):(bP l keep)[j]? = (l[j]?).map (fun f=>gX f (keep.getD j 0)):=by unfold bP;simp
end
structure WfP(D:jL):Prop where
 synced:∀f∈D.l,f.synced<=f.data.size
 used:j4 D.l<=D.cap
 cap:D.cap<=1048576
 many:D.l.length<=400
theorem WfP.ok{D:jL}(h:WfP D):yo D:=by
 have b:=h.used;have c:=h.cap;exact⟨fun f a=>⟨h.synced f a,by have:=Xk a;omega⟩,h.many,by omega,h.cap⟩
theorem WfP.next{D:jL}(h:WfP D):WfP (cZ D):=⟨h.synced,h.used,h.cap,h.many⟩
theorem WfP.sink{D:jL}(h:WfP D)(keep:List Int):WfP (uc D keep):=by
 have c:(bP D.l keep).length=D.l.length:=by unfold bP;simp
 refine⟨fun f g=>?_, ?_,h.cap,by show(bP D.l keep).length<=_;rw[c];exact h.many⟩
 ·obtain⟨j,a⟩:=ql (show f∈bP D.l keep from g);rw[VR]at a;cases b:D.l[j]? with
  | none=>rw[b]at a;cases a
  | some x =>
    rw[b]at a;obtain rfl:gX x (keep.getD j 0)=f:=(by simpa using a);exact(VO x _).2 (h.synced x (qN b))
 ·refine qR (VP _ _ c (fun i x y k n=>?_)) h.used;have d:(bP D.l keep)[i]? = some x:=k;rw[VR,n]at d;obtain rfl:gX y (keep.getD i 0)=x:=by simpa using d
  exact(VO y _).1
theorem WfP.setF{D:jL}(h:WfP D){k:Nat}{f:jO}(c:D.l[k]? = some f)(g:jO->jO)(i:(g f).synced<=(g f).data.size)(j:j4 D.l+(g f).data.size<=D.cap+f.data.size):WfP { D with l:=kq D.l k g }:=by
 have n:=oJ D.l k f g c;refine⟨fun x a=>?_,by show j4 (Go.Proofs.YthejglbnkmimjaaGreat.kq D.l k g)<=D.cap;omega,h.cap,by show(Go.Proofs.YthejglbnkmimjaaGreat.kq D.l k g).length<=_;rw[tY];exact h.many⟩;rcases VE a with a|⟨d,b,rfl⟩
 ·exact h.synced x a
 ·rw[c]at b;obtain rfl:f=d:=by simpa using b
  exact i
theorem WfP.done{D E:jL}(h:WfP D)(a:WfP E):WfP (y9 D E).2:=by
 unfold y9;split
 ·exact⟨a.synced,a.used,a.cap,a.many⟩
 ·exact h.sink _
theorem Li{c:Nat}(a:c<=1048576):WfP (fV c):=⟨fun f b=>(by cases b),qI _,a,qI _⟩
section
variable {D:jL}(h:WfP D)
include h
theorem lj(n:Tw):WfP (jk D n).2:=by
 unfold jk;split
 ·exact h
 ·split
  ·exact h
  ·split
   ·exact h
   ·split
    ·exact h
    ·rename_i b;refine h.done ⟨fun f a=>?_, ?_,h.cap, ?_⟩
     ·rcases mn a with a|rfl
      ·exact h.synced f a
      ·exact qI _
     ·show j4 (kO _ _)<=_;rw[oY];exact h.used
     ·show(kO _ _).length<=_;rw[pt];omega
theorem lk(n s:Tw):WfP (jr D n s).2:=by
 unfold jr;split
 ·exact h
 ·split
  ·rename_i c;split
   ·exact h
   ·rename_i d;obtain⟨f,b,_⟩:=mh c;have a:WfP (uO D n s):=h.setF b _ (by show f.synced<=(f.data++s).size;have:=h.synced f (qN b);rw[qy];omega) (by show j4 D.l+(f.data++s).size<=_;rw[qy];omega);split
    ·exact a.next
    ·exact a.sink _
  ·exact h
theorem Xy(n:Tw)(a k:Int):WfP (kM D n a k).2.2:=by
 have b:WfP { D with count:=D.count+1 }:=⟨h.synced,h.used,h.cap,h.many⟩
 unfold kM;split
 ·exact h
 ·dsimp only;split
  ·exact b
  ·split<;>exact b
theorem mr(n:Tw):WfP (kJ D n).2:=by
 unfold kJ;split
 ·exact h
 ·split
  ·rename_i a;obtain⟨f,b,_⟩:=mh a;exact h.done (h.setF b _ (qK _) (by have:=h.used;show j4 D.l+f.data.size<=_;omega))
  ·exact h
theorem Xu(n m:Tw):WfP (vj D n m).2:=by
 unfold vj;split
 ·exact h
 ·split
  ·rename_i c;split
   ·exact h
   ·obtain⟨f,a,_⟩:=mh c;refine h.done ?_;by_cases e:n=m
    ·rw[qV e];exact h
    ·rw[qZ e,oK a];have o:=pw a;have d:=VN (kr D.l (jx D.l n)) m;have j:=pr c;have i:=VF (kr D.l (jx D.l n)) m;have g:=h.used;have k:=h.many;refine⟨fun x b=>?_, ?_,h.cap, ?_⟩
     ·rcases mn b with b|rfl
      ·exact h.synced x (oU (VM b))
      ·exact h.synced f (qN a)
     ·show j4 (kO _ _)<=_;rw[oY];show _+f.data.size<=D.cap;omega
     ·show(kO _ _).length<=_;rw[pt];omega
  ·exact h
theorem dM(n:Tw):WfP (jh D n).2:=by
 unfold jh;split
 ·exact h
 ·split
  ·rename_i a;obtain⟨f,b,_⟩:=mh a;have j:=pw b;have g:=pr a;have d:=h.used;have i:=h.many;exact h.done ⟨fun x c=>h.synced x (oU c),by show j4 (kr _ _)<=D.cap;omega,h.cap,by show(kr _ _).length<=_;omega⟩
  ·exact h
end
section
def jT(l:List jO)(n:Tw):Option jO:=l.find? (fun f=>decide (f.name=n))
theorem fY: ∀(l:List jO) (n:Tw),l[jx l n]? = jT l n
 | [],n=>rfl
 | x::l,n=>by
   have ih:=fY l n;unfold jx jT at*;rw[List.findIdx_cons,List.find?_cons];cases h:decide (x.name=n)
   ·simpa using ih
   ·rfl
theorem ly{l:List jO}{n:Tw}:jx l n<l.length↔jT l n≠none:=by
 rw[<-fY];constructor
 ·intro h e;rw[qE h]at e;cases e
 ·intro h;rcases qd (jx l n) l.length with c|c
  ·exact c
  ·exact absurd (xX c) h
theorem Lo{l:List jO}{n:Tw}{f:jO}(h:jT l n=some f):f.name=n:=by
 have:=List.find?_some h;simpa using this
theorem Lw{l:List jO}{n:Tw}{f:jO}(h:jT l n=some f):f∈l:=List.mem_of_find?_eq_some h
theorem fi{l:List jO}{n:Tw}:jT l n=none↔∀f∈l,f.name≠n:=by
 unfold jT;rw[List.find?_eq_none];simp
theorem oG(h:jO->jO)(c:∀f,(h f).name=f.name)(n m:Tw):∀l:List jO,jT (kq l (jx l n) h) m=if m=n then(jT l n).map h else jT l m
 | []=>by
   unfold kq jT jx;simp
 | x::l=>by
   have ih:=oG h c n m l;by_cases e:x.name=n
   ·have b:jx (x::l) n=0:=(by unfold jx;rw[List.findIdx_cons];simp[e]);rw[b];show jT (h x::l) m=_;unfold jT;rw[List.find?_cons,List.find?_cons,List.find?_cons,c,qB e];by_cases a:m=n
    ·rw[qV a,a,qB e];rfl
    ·rw[qZ a,qA (fun q=>a (by rw[<-e,q]))]
   ·have b:jx (x::l) n=jx l n+1:=(by unfold jx;rw[List.findIdx_cons];simp[e]);rw[b];show jT (x::kq l (jx l n) h) m=_;unfold jT at ih ⊢;rw[List.find?_cons,List.find?_cons,List.find?_cons,qA e];by_cases a:x.name=m
    ·rw[qB a];by_cases q:m=n
     ·exact absurd (a.trans q) e
     ·rw[qZ q]
    ·rw[qA a];exact ih
theorem Xg{l:List jO}{f:jO}(c:jT l f.name=none)(m:Tw):jT (kO l f) m=if m=f.name then some f else jT l m:=by
 have b:=fi.1 c;unfold kO;have d:l=l.take (yD l f.name)++l.drop (yD l f.name):=(qp _ _).symm;generalize yD l f.name=k at*;unfold jT;rw[List.find?_append,List.find?_append];by_cases e:m=f.name
 ·subst e;rw[qV rfl,List.find?_eq_none.2 (fun x g=>by simpa using b x (List.mem_of_mem_take g))];simp
 ·rw[qZ e];have a:[f].find? (fun f=>decide (f.name=m))=none:=by simp[Ne.symm e]
  rw[a]
  conv=>rhs;rw[d,List.find?_append]
  simp
theorem ma(h:jO->jO)(hh:∀f,(h f).name=f.name):∀(l:List jO) (k:Nat),(kq l k h).map jO.name=l.map jO.name
 | [],k=>by unfold kq;simp
 | x::l,0=>by show(h x::l).map _=_;simp[hh]
 | x::l,k+1=>by
   show(x::kq l k h).map _=_;rw[List.map_cons,List.map_cons,ma h hh l k]
theorem VS{l:List jO}{n:Tw}(h:jO->jO)(a:∀f,(h f).data.size=f.data.size):j4 (kq l (jx l n) h)=j4 l:=by
 rcases qd (jx l n) l.length with c|c
 ·obtain⟨f,b⟩:=Xj c;have:=oJ l _ f h b;have:=a f;omega
 ·have e:kq l (jx l n) h=l:=by
   unfold kq;exact List.modify_eq_self c
  rw[e]
theorem me{D:jL}{n:Tw}{f:jO}(a:D.down=false)(h:jT D.l n=some f):j9 D n=(f.data.size,0):=by
 unfold j9;rw[fY,h,qZ (by simp[a])]
theorem rQ{D:jL}{n:Tw}{f:jO}{a k:Nat}(b:D.down=false)(h:jT D.l n=some f)(c:a+k<=f.data.size):kM D n (a:Nat) (k:Nat)=(f.data.extract a (a+k),0, { D with count:=D.count+1 }):=by
 unfold kM;dsimp only;rw[fY,h,qZ (by simp[b])];dsimp only;rw[qZ (by omega),qa,qa]
theorem Xb{D:jL}{n:Tw}{f:jO}(a:D.down=false)(b:D.fails=0)(h:jT D.l n=some f):kJ D n=(0, { D with l:=kq D.l (jx D.l n) (fun f=>{ f with synced:=f.data.size }) }):=by
 unfold kJ y9 yG;rw[qZ (by simp[a]),qV (ly.2 (by rw[h];simp)),b,qV (by decide)]
theorem Xc{D:jL}{n s:Tw}{f:jO}(b:D.down=false)(a:D.fails=0)(h:jT D.l n=some f)(c:j4 D.l+s.size<=D.cap):jr D n s=(0,uO D n s):=by
 unfold jr yG;rw[qZ (by simp[b]),qV (ly.2 (by rw[h];simp)),qZ (by omega),a,qV (by decide)];unfold cZ uO;simp[a]
theorem VT{D:jL}{n:Tw}(a:D.down=false)(b:D.fails=0)(c:vY n=true)(h:jT D.l n=none)(d:D.l.length<400):jk D n=(0, { D with l:=kO D.l ⟨n,ByteArray.empty,0⟩ }):=by
 unfold jk y9 yG;rw[qZ (by simp[a]),qZ (by simp[c]),qZ (fun q=>ly.1 q h),qZ (by omega),b,qV (by decide)]
theorem tA{D:jL}{n:Tw}(a:D.down=false)(h:jT D.l n=none):jh D n=(4,D):=by
 unfold jh;rw[qZ (by simp[a]),qZ (fun q=>ly.1 q h)]
def kQ(D:jL)(n s:Tw):Nat × jL :=
 if (jk D n).1≠0 then jk D n
 else if (jr (jk D n).2 n s).1≠0 then jr (jk D n).2 n s
 else kJ (jr (jk D n).2 n s).2 n
def rdW(D:jL)(n:Tw):Tw × Nat × jL:=if (j9 D n).2=0 then kM D n 0 ((j9 D n).1:Nat) else(ByteArray.empty,(j9 D n).2,D)
theorem rX{D:jL}(h:WfP D)(n:Tw):WfP (rdW D n).2.2:=by
 unfold rdW;split
 ·exact Xy h _ _ _
 ·exact h
theorem MQ(D:jL)(n:Tw):(rdW D n).2.2.count<=D.count+1/\(rdW D n).2.2.cap=D.cap/\(rdW D n).2.2.l=D.l/\(rdW D n).2.2.down=D.down/\(rdW D n).2.2.fails=D.fails:=by
 unfold rdW kM;split
 ·split
  ·exact⟨Nat.le_succ _,rfl,rfl,rfl,rfl⟩
  ·dsimp only;split
   ·exact⟨qK _,rfl,rfl,rfl,rfl⟩
   ·split<;>exact⟨qK _,rfl,rfl,rfl,rfl⟩
 ·exact⟨Nat.le_succ _,rfl,rfl,rfl,rfl⟩
theorem oW{D:jL}(ok:WfP D)(n s:Tw):WfP (kQ D n s).2:=by
 unfold kQ;have a:=lj ok n;have b:=lk a n s;split
 ·exact a
 ·split
  ·exact b
  ·exact mr b n
structure UpD(D:jL):Prop where
 down:D.down=false
 fails:D.fails=0
 wf:WfP D
theorem UpD.count{D:jL}(h:UpD D)(k:Nat):UpD { D with count:=k }:=⟨h.down,h.fails,⟨h.wf.synced,h.wf.used,h.wf.cap,h.wf.many⟩⟩
theorem MX{c:Nat}(a:c<=1048576):UpD (fV c):=⟨rfl,rfl,Li a⟩
theorem V0(s:Tw):ByteArray.empty++s=s:=by
 apply qi;rw[ByteArray.data_append];apply Array.toList_inj.1;rw[Array.toList_append];rfl
structure MZ(D E:jL)(n s:Tw):Prop where
 up:UpD E
 count:E.count=D.count
 cap:E.cap=D.cap
 used:j4 E.l=j4 D.l+s.size
 many:E.l.length=D.l.length+1
 file:∀m,jT E.l m=if m=n then some ⟨n,s,s.size⟩ else jT D.l m
theorem Xd{D:jL}(h:UpD D)(F:D.l.length<400){n s:Tw}(G:vY n=true)(v:jT D.l n=none)(H:j4 D.l+s.size<=D.cap):∃E,kQ D n s=(0,E)/\MZ D E n s:=by
 have c1:=VT h.down h.fails G v F;have j:=lj h.wf n;rw[c1]at j;have p:∀m,jT (kO D.l ⟨n,ByteArray.empty,0⟩) m=if m=n then some ⟨n,ByteArray.empty,0⟩ else jT D.l m:=fun m=>Xg (f:=⟨n,ByteArray.empty,0⟩) v m
 have u1:j4 (kO D.l ⟨n,ByteArray.empty,0⟩)=j4 D.l:=by rw[oY];rfl
 obtain⟨a,r⟩:∃a:jL, { D with l:=kO D.l ⟨n,ByteArray.empty,0⟩ }=a:=⟨_,rfl⟩
 have c:a.down=false/\a.fails=0/\a.count=D.count/\a.cap=D.cap/\a.l=kO D.l ⟨n,ByteArray.empty,0⟩:=by rw[<-r];exact⟨h.down,h.fails,rfl,rfl,rfl⟩
 rw[r]at c1 j;have i:jT a.l n=some ⟨n,ByteArray.empty,0⟩:=by rw[c.2.2.2.2,p,qV rfl]
 have g:=Xc (s:=s) c.1 c.2.1 i (by rw[c.2.2.2.2,u1,c.2.2.2.1];exact H);have k:=lk j n s;rw[g]at k;obtain⟨b,u⟩:∃b,uO a n s=b:=⟨_,rfl⟩
 have d:b.down=false/\b.fails=0/\b.count=D.count/\b.cap=D.cap/\b.l=kq a.l (jx a.l n) (fun f=>{ f with data:=f.data++s }):=by
  rw[<-u];exact⟨c.1,c.2.1,c.2.2.1,c.2.2.2.1,rfl⟩
 rw[u]at g k
 have q:∀m,jT b.l m=if m=n then some ⟨n,s,0⟩ else jT D.l m:=fun m=>by
  rw[d.2.2.2.2,oG _ (by intro f;rfl),i];by_cases e:m=n
  ·rw[qV e,qV e];show some (jO.mk n (ByteArray.empty++s) 0)=_;rw[V0]
  ·rw[qZ e,qZ e,c.2.2.2.2,p,qZ e]
 have C:a.l[jx a.l n]? = some ⟨n,ByteArray.empty,0⟩:=by rw[fY];exact i
 have u2:j4 b.l=j4 D.l+s.size:=by
  have:=oJ a.l _ _ (fun f=>{ f with data:=f.data++s }) C;rw[<-d.2.2.2.2]at this;have I:j4 a.l=j4 D.l:=by rw[c.2.2.2.2];exact u1
  have A:(ByteArray.empty++s).size=s.size:=by rw[V0]
  have B:(ByteArray.empty).size=0:=rfl;simp only[A,B]at this;omega
 have o:jT b.l n=some ⟨n,s,0⟩:=by rw[q,qV rfl]
 have y:=Xb d.1 d.2.1 o;have z:=mr k n;rw[y]at z;refine⟨{ b with l:=kq b.l (jx b.l n) (fun f=>{ f with synced:=f.data.size }) }, ?_,⟨d.1,d.2.1,z⟩,d.2.2.1,d.2.2.2.1, ?_, ?_,fun m=>?_⟩
 ·unfold kQ;rw[c1];simp only;rw[qZ (by decide),g];simp only;rw[qZ (by decide)];exact y
 ·show j4 (kq _ _ _)=_;rw[VS _ (by intro f;rfl),u2]
 ·show(kq _ _ _).length=_;rw[tY,d.2.2.2.2,tY,c.2.2.2.2,pt]
 ·show jT (kq _ _ _) m=_;rw[oG _ (by intro f;rfl),o,q];by_cases e:m=n
  ·rw[qV e,qV e];rfl
  ·rw[qZ e,qZ e,qZ e]
theorem lu{D:jL}{n:Tw}{f:jO}(b:D.down=false)(h:jT D.l n=some f):rdW D n=(f.data,0, { D with count:=D.count+1 }):=by
 unfold rdW;rw[me b h,qV rfl];have:=rQ (a:=0) (k:=f.data.size) b h (by omega);rw[qe]at this
 have e:f.data.extract 0 f.data.size=f.data:=by
  apply qi;rw[ByteArray.data_extract];exact Array.extract_size
 rw[e]at this;exact this
theorem mi{D:jL}{n:Tw}(a:D.down=false)(h:jT D.l n=none):rdW D n=(ByteArray.empty,4,D):=by
 have e:j9 D n=(0,4):=by
  unfold j9;rw[qZ (by simp[a]),fY,h]
 unfold rdW;rw[e,qZ (by decide)]
theorem tB{n m:Tw}(b:m≠n):∀l:List jO,jT (kr l (jx l n)) m=jT l m
 | []=>rfl
 | x::l=>by
   have ih:=tB b l;by_cases e:x.name=n
   ·have a:jx (x::l) n=0:=(by unfold jx;rw[List.findIdx_cons];simp[e]);rw[a];show jT l m=_;unfold jT;rw[List.find?_cons,qA (fun q=>b (by rw[<-e,q]))]
   ·have a:jx (x::l) n=jx l n+1:=(by unfold jx;rw[List.findIdx_cons];simp[e]);rw[a];show jT (x::kr l (jx l n)) m=_;unfold jT at ih ⊢;rw[List.find?_cons,List.find?_cons,ih]
theorem tC{D:jL}(h:UpD D){n:Tw}{f:jO}(a:jT D.l n=some f):∃E,jh D n=(0,E)/\UpD E/\E.count=D.count/\E.cap=D.cap/\E.l=kr D.l (jx D.l n)/\j4 E.l+f.data.size=j4 D.l/\E.l.length+1=D.l.length/\∀m,m≠n->jT E.l m=jT D.l m:=by
 have b:jx D.l n<D.l.length:=ly.2 (by rw[a];simp);have c:D.l[jx D.l n]? = some f:=by rw[fY];exact a
 have e:jh D n=(0, { D with l:=kr D.l (jx D.l n) }):=by
  unfold jh y9 yG;rw[qZ (by simp[h.down]),qV b,h.fails,qV (by decide)]
 have w:=dM h.wf n;rw[e]at w;exact⟨_,e,⟨h.down,h.fails,w⟩,rfl,rfl,rfl,pw c,by have:=pr b;show(kr _ _).length+1=_;omega,fun m d=>tB d D.l⟩
end
section
open Go.RowKit
theorem tD{a b:Int}(h:a=b):Value.int .u32 a=.int .u32 b:=by rw[h]
theorem MJ{a b:Int}(h:a=b):Ending.returned (.int .u32 a)=.returned (.int .u32 b):=by rw[h]
theorem MK(y:Nat)(d:y<4294967296):bits .xor .u32 ((y:Int)/2) (bits .and .u32 (y:Int) 1*3988292384%4294967296)=((stp y:Nat):Int):=by
 have a:bits .and .u32 (y:Int) 1=((y%2:Nat):Int):=by
  have h:=u32_and_nat y 1 d (by decide);rw[nat_mask1]at h;exact h
 have b:((y%2:Nat):Int)*3988292384%4294967296=((y%2*3988292384:Nat):Int):=by omega
 have c:(y:Int)/2=((y/2:Nat):Int):=by omega
 rw[a,b,c];exact u32_xor_nat _ _ (by omega) (by omega)
theorem MV(x c:Nat)(w:World)(b:x<4294967296)(g:c<256):
  Calls prog 307 #[.int .u32 (x:Nat),.int .u8 (c:Nat)] w (X0 (.int .u32 (pq x c:Nat)) w):=by
 go_enter func307,ntmps307;go_wp2
 go_loop [0,9] (fun a i=>∃k:Nat,k<=8/\i=.int .i64 k/\a=.int .u32 (stk k (x^^^c):Nat)) (fun _ i=>8-(intOf i).toNat)
 case atStart=>exact⟨0,by omega,rfl,tD (u32_xor_nat x c b (by omega))⟩
 case round =>
  obtain⟨k,j,rfl,rfl⟩:=hrel;by_cases l:k<8
  ·have f:stk k (x^^^c)<4294967296:=XO k (XN b (by omega));have d:=qQ (Fi k (x^^^c));generalize stk k (x^^^c)=y at*;go_wp2
   go_round
   case rel=>exact⟨k+1,by omega,by go_num,tD (by rw[d.out];exact MK y f)⟩
   case measure=>simp[intOf];omega
  ·obtain rfl:k=8:=(by omega);go_wp2;go_ret;exact⟨rfl,rfl⟩
theorem V4(x:Nat)(a:x<4294967296):bits .xor .u32 IntKind.u32.max (x:Int)=((4294967295-x:Nat):Int):=by
 have e:IntKind.u32.max=((4294967295:Nat):Int):=by decide
 rw[e,Hk a];exact u32_xor_nat _ _ (by decide) a
theorem MY(x:Nat)(s:Tw)(w:World)(o:x<4294967296)(n:s.size<=maxLen):
  Calls prog 285 #[.int .u32 (x:Nat),s] w (X0 (.int .u32 (pz x s.data.toList:Nat)) w):=by
 unfold maxLen at n;go_enter func285,ntmps285;go_wp2
 go_loop [5,11] (fun a i=>∃k:Nat,k<=s.size/\i=.int .i64 k/\a=.int .u32 (ga (4294967295-x) (s.data.toList.take k):Nat)) (fun _ i=>s.size-(intOf i).toNat)
 case atStart =>
  exact⟨0,by omega,rfl,tD (by rw[List.take_zero,Fo];exact V4 x o)⟩
 case round =>
  obtain⟨k,p,rfl,rfl⟩:=hrel;have c:ga (4294967295-x) (s.data.toList.take k)<4294967296:=Kr _ (by omega);by_cases l:k<s.size
  ·have b:=qQ (XM s k l);have g:=qQ (Hz (4294967295-x) (s.data.toList.take k) s[k]);have j:=(s[k]).toNat_lt;generalize ga (4294967295-x) (s.data.toList.take k)=y at*;go_wp2_with fail;refine X5 (MV y _ _ c j) ?_;go_wp2
   go_round
   case rel=>exact⟨k+1,by omega,by go_num,tD (by rw[b.out,g.out])⟩
   case measure=>simp[intOf];omega
  ·obtain rfl:k=s.size:=(by omega);have b:List.take s.size s.data.toList=s.data.toList:=qm (by simp);have d:pz x s.data.toList=4294967295-ga (4294967295-x) s.data.toList:=rfl;rw[b]at c ⊢;clear b;generalize ga (4294967295-x) s.data.toList=y at*;have f:=qQ d;clear d;go_wp2;go_ret;exact⟨MJ (by rw[f.out];exact V4 y c),rfl⟩
theorem MU(s:Tw)(w:World)(a:s.size<=maxLen):
  Calls prog 251 #[s] w (X0 (.int .u32 (tQ s.data.toList:Nat)) w):=by
 have h:=qQ (fun w=>MY 0 s w (by decide) a);unfold maxLen at a;go_enter func251,ntmps251;go_wp2_with fail;refine X5 (h.out _) ?_;go_wp2;go_ret;exact⟨rfl,rfl⟩
theorem V5: ∀(k n j:Nat) (h:j<(be k n).length),(be k n)[j]=UInt8.ofNat (n/256 ^ (k-1-j))
 | 0,n,j,h=>by simp[be]at h
 | k+1,n,0,h=>by simp[be]
 | k+1,n,j+1,h=>by
   have a:j<(be k n).length:=(by simpa[be] using h);have e:k+1-1-(j+1)=k-1-j:=(by omega);simp only[be,List.getElem_cons_succ,V5 k n j a,e]
def mo(n N k j:Nat):Value:=.int .u8 (if j+k<N then 0 else((n/256 ^ (N-1-j)%256:Nat):Int))
theorem MG(n N k j:Nat)(b:k<N):(if j=N-1-k then Value.int .u8 ((n/256 ^ k%256:Nat):Int) else mo n N k j)=mo n N (k+1) j:=by
 unfold mo;by_cases h:j=N-1-k
 ·have e:N-1-j=k:=by omega
  rw[qV h,qZ (by omega),e]
 ·rw[qZ h];by_cases a:j+k<N
  ·rw[qV a,qV (by omega)]
  ·rw[qZ a,qZ (by omega)]
theorem MW(n N j:Nat)(h:j<(be N n).length):mo n N N j=.int .u8 ((be N n)[j].toNat:Int):=by
 unfold mo;rw[qZ (by omega),V5,UInt8.toNat_ofNat']
theorem MA(n k:Nat):(n:Int)/2 ^ (8*k)%256=((n/256 ^ k%256:Nat):Int):=by
 have e:(2:Nat) ^ (8*k)=256 ^ k:=by rw[Nat.pow_mul]
 rw[<-e,Int.natCast_emod,Int.natCast_ediv,Int.natCast_pow];rfl
theorem gw(n N:Nat)(w:World)(f:1<=N)(g:N<=8)(s:n<18446744073709551616):
  Calls prog 142 #[.int .u64 (n:Nat),N] w (X3 (.string (bs (be N n))) w):=by
 have r:=run_make_row' (P:=prog) 154 5 (.int .u8 0) 1 Tryz.underlying154 (by kernel_rfl) rfl .i64 .i64 N (by omega) (by omega);go_enter func142,ntmps142;go_wp2;go_loopw [16] (fun i wr=>∃k:Nat,k<=N/\i=.int .i64 k/\wr.rowIs w.1.size 5 N (mo n N k)/\Below w.1.size w wr) (fun i _=>N-(intOf i).toNat)
 case atStart=>exact⟨0,qI _,rfl,(World.rowIs_made _ _ _ _).congr (fun j a=>by unfold mo;rw[qV (by omega)]),(qG _ _).alloc (qK _) _⟩
 case round =>
  obtain⟨k,q,rfl,b,c⟩:=hrel;by_cases d:k<N
  ·have l:=b.cell (i:=N-1-k) (by omega);have p:=b.frozen (N-1-k);go_wp2;go_roundw
   case rel =>
    rw[MA n k];exact⟨k+1,by omega,by go_num,(b.set _ _).congr (fun j _=>MG n N k j d),c.setCell (qK _) _⟩
   case measure=>simp[intOf];omega
  ·obtain rfl:k=N:=by omega
   have o:(convert 154 9 (.slice (some ⟨w.1.size,0,none⟩) k k)).run prog wr=.ok (.string (bs (be k n))) wr:=by
    have h:=run_convert_bytes_back (P:=prog) wr 154 9 5 ⟨w.1.size,0,none⟩ k (be k n) Tryz.underlying154 Tryz.underlying5 Tryz.underlying9
     (fun j a=>by
      have e:(⟨w.1.size,0,none⟩:Addr).add j=⟨w.1.size,j,none⟩:=(by simp[Addr.add];omega);rw[e,b.cell (by rw[je]at a;exact a),MW n k j a])
    rw[je]at h;exact h
   go_wp2;go_ret;exact⟨rfl,c⟩
theorem MB(i a b c d:Nat)(g:b<2 ^ i)(f:d<2 ^ i):(2 ^ i*a+b)&&&(2 ^ i*c+d)=2 ^ i*(a&&&c)+(b&&&d):=by
 apply Nat.eq_of_testBit_eq;intro j;rw[Nat.testBit_and,Nat.testBit_two_pow_mul_add a g,Nat.testBit_two_pow_mul_add c f,Nat.testBit_two_pow_mul_add (a&&&c) (Nat.and_lt_two_pow b f)];split<;>rw[Nat.testBit_and]
theorem MC(i a b c d:Nat)(f:b<2 ^ i)(g:d<2 ^ i):(2 ^ i*a+b)|||(2 ^ i*c+d)=2 ^ i*(a|||c)+(b|||d):=by
 apply Nat.eq_of_testBit_eq;intro j;rw[Nat.testBit_or,Nat.testBit_two_pow_mul_add a f,Nat.testBit_two_pow_mul_add c g,Nat.testBit_two_pow_mul_add (a|||c) (Nat.or_lt_two_pow f g)];split<;>rw[Nat.testBit_or]
theorem V6(x:Nat):x&&&16711935=65536*(x/65536%256)+x%256:=by
 have h:=MB 16 (x/65536) (x%65536) 255 255 (Nat.mod_lt _ (by decide)) (by decide);have a:(2:Nat) ^ 16*(x/65536)+x%65536=x:=by omega
 have b:(2:Nat) ^ 16*255+255=16711935:=by decide
 rw[a,b,nat_mask8,nat_mask8]at h;rw[h];omega
theorem V7(a b:Nat)(c:b<256):b|||(256*a)=256*a+b:=by
 rw[Nat.or_comm];exact nat_join 8 (256*a) b (by omega) (by omega)
def fU(n:Nat):Nat:=16777216*(n%256)+65536*(n/256%256)+256*(n/65536%256)+n/16777216%256
theorem V8(n:Nat):fU n<4294967296:=by unfold fU;omega
theorem MD(n:Nat)(d:n<4294967296):be 4 (fU n)=(be 4 n).reverse:=by
 have e:un (be 4 n).reverse=fU n:=by
  have a:(256:Nat) ^ 1=256:=by decide
  have b:(256:Nat) ^ 2=65536:=by decide
  have c:(256:Nat) ^ 3=16777216:=by decide
  simp only[a,b,c,Nat.pow_zero,Nat.div_one,be,List.reverse_cons,List.reverse_nil,List.nil_append,List.cons_append,un,List.foldl_cons,List.foldl_nil,UInt8.toNat_ofNat'];unfold fU;omega
 have h:=mg (be 4 n).reverse;rw[List.length_reverse,je,e]at h;exact h
theorem ME(n:Nat)(q:n<4294967296):bits .or .u32 (bits .and .u32 ((n:Int)/256) 16711935) (bits .and .u32 (n:Int) 16711935*256%4294967296) =
  ((16777216*(n/65536%256)+65536*(n/16777216%256)+256*(n%256)+n/256%256:Nat):Int):=by
 have j:(n:Int)/256=((n/256:Nat):Int):=by omega
 have k:bits .and .u32 ((n/256:Nat):Int) 16711935=((n/256&&&16711935:Nat):Int):=u32_and_nat _ _ (by omega) (by decide);have l:bits .and .u32 (n:Int) 16711935=((n&&&16711935:Nat):Int):=u32_and_nat _ _ q (by decide);rw[j,k,l,V6,V6];have g:n/256/65536%256=n/16777216%256:=by omega
 have r:n%256<256:=Nat.mod_lt _ (by decide);have s:n/256%256<256:=Nat.mod_lt _ (by decide);have u:n/65536%256<256:=Nat.mod_lt _ (by decide);have v:n/16777216%256<256:=Nat.mod_lt _ (by decide);rw[g];generalize n%256=a at*;generalize n/256%256=b at*;generalize n/65536%256=c at*;generalize n/16777216%256=d at*;have o:((65536*c+a:Nat):Int)*256%4294967296=((65536*(256*c)+256*a:Nat):Int):=by omega
 rw[o];have p:=u32_or_nat (65536*d+b) (65536*(256*c)+256*a) (by omega) (by omega);rw[p];have f:=MC 16 d b (256*c) (256*a) (by omega) (by omega);rw[V7 c d (by omega),V7 a b (by omega)]at f;have i:(2:Nat) ^ 16=65536:=by decide
 rw[i]at f;rw[f];omega
theorem MF(m:Nat)(c:m<4294967296):bits .or .u32 ((m:Int)/65536) ((m:Int)*65536%4294967296)=((m%65536*65536+m/65536:Nat):Int):=by
 have a:(m:Int)/65536=((m/65536:Nat):Int):=by omega
 have b:(m:Int)*65536%4294967296=((m%65536*65536:Nat):Int):=by omega
 rw[a,b,u32_or_nat _ _ (by omega) (by omega),Nat.or_comm];rw[nat_join 16 _ _ (by omega) (by omega)]
theorem MH(n:Nat)(w:World)(b:n<4294967296):
  Calls prog 250 #[.int .u32 (n:Nat)] w (X0 (.int .u32 (fU n:Nat)) w):=by
 have a:=qQ (ME n b);go_enter func250,ntmps250;go_wp2;go_ret;refine⟨my ?_,rfl⟩;rw[a.out,MF _ (by omega)];unfold fU;omega
theorem MI(n:Nat)(w:World)(a:n<4294967296):
  Calls prog 142 #[.int .u64 (fU n:Nat),.int .i64 4] w (X3 (.string (bs (be 4 n).reverse)) w):=by
 rw[<-MD n a];exact gw (fU n) 4 w (by omega) (by omega) (by have:=V8 n;omega)
theorem V9(s:Tw)(w:World)(b:s.size<=maxLen):
  Calls prog 211 #[s] w (X3 (.string (bs (yi s.data.toList))) w):=by
 have c:=qQ (fun w=>MU s w b);have a:=Hy s.data.toList;unfold yi;generalize tQ s.data.toList=n at*;have d:=qQ (fun w=>MH n w a);have f:=qQ (fun w=>MI n w a);have i:=V8 n;generalize fU n=m at*;generalize bs (be 4 n).reverse=t at*;unfold maxLen at b;go_enter func211,ntmps211;go_wp2_with fail;refine X5 (c.out _) ?_;go_wp2_with fail;refine X5 (d.out _) ?_;go_wp2_with fail;refine KG (f.out _) fun w' g=>?_;go_wp2;go_ret;exact⟨rfl,g⟩
def vv(s:Tw):Tw:=s++bs (yi s.data.toList)
theorem ML(s:Tw)(h:s.size+4<=maxLen)(l:List UInt8)(a:l.length=4)(w:World):(Op.stringOp .add s (bs l)).run prog w=.ok (.string (s++bs l)) w :=
 run_string_add_sum (P:=prog) (w:=w) s (bs l) (by rw[kP,a];exact h)
theorem oA(s:Tw)(w:World)(a:s.size+4<=maxLen):
  Calls prog 197 #[s] w (X3 (.string (vv s)) w):=by
 have b:=qQ (fun w=>V9 s w (by omega));have d:=ML s a _ (pj s.data.toList);unfold vv;generalize yi s.data.toList=t at*;unfold maxLen at a;go_enter func197,ntmps197;go_wp2_with fail;refine KG (b.out _) fun w' c=>?_;go_wp2;go_ret;exact⟨rfl,c⟩
def yw(s:Tw):Bool:=decide (4<=s.size/\s.extract (s.size-4) s.size=bs (yi (s.extract 0 (s.size-4)).data.toList))
def opA(s:Tw):Tw:=if yw s=true then s.extract 0 (s.size-4) else ByteArray.empty
theorem Vq{a b:Tw}(h:a=b):(a.toList==b.toList)=true:=by rw[h,beq_iff_eq]
theorem Xf{a b:Tw}(h:¬a=b):(a.toList==b.toList)=false:=by
 rw[qg];intro x;rw[Lib.toList_data,Lib.toList_data]at x;exact h (qi (Array.toList_inj.1 x))
theorem MM(s:Tw)(w:World)(i:s.size<=maxLen)(k:4<=s.size)(T:Tw)
  (c:∀W,Below w.1.size w W->Calls prog 211 #[.string (s.extract 0 (s.size-4))] W (X3 (.string T) w)):
  Calls prog 157 #[s] w (X3 (.tuple #[.string (if s.extract (s.size-4) s.size=T then s.extract 0 (s.size-4) else ByteArray.empty),.bool (decide (s.extract (s.size-4) s.size=T))]) w):=by
 have b:=qQ c;clear c;unfold maxLen at i;have j:decide ((s.size:Int)-4<0)=false:=by simp;omega
 have l:(0:Int)<=(s.size:Int)-4:=by omega
 have p:(4:Int)<=(s.size:Int):=by omega
 have n:(s.size:Int)-4<=s.size:=by omega
 have o:((s.size:Int)-4).toNat=s.size-4:=by omega
 by_cases a:s.extract (s.size-4) s.size=T
 ·have g:=Vq a.symm;rw[qV a,qB a];have d:=qQ a;clear a;go_enter func157,ntmps157;go_wp2_with fail
  go_region_held3 (fun w'=>Below w.1.size w w') (first|assumption|exact(qG _ _).drew) ((go_at_call 211;refine KG (b.out _ (by assumption)) fun w' f=>?_))
  go_wp2;go_ret2;exact⟨rfl,‹Below _ _ _›⟩
 ·have g:=Xf (fun h:T=s.extract (s.size-4) s.size=>a h.symm);rw[qZ a,qA a];have d:=qQ a;clear a;go_enter func157,ntmps157;go_wp2_with fail
  go_region_held3 (fun w'=>Below w.1.size w w') (first|assumption|exact(qG _ _).drew) ((go_at_call 211;refine KG (b.out _ (by assumption)) fun w' f=>?_))
  go_wp2;go_ret2;exact⟨rfl,‹Below _ _ _›⟩
theorem Xh(s:Tw)(w:World)(f:s.size<=maxLen):
  Calls prog 157 #[s] w (X3 (.tuple #[.string (opA s),.bool (yw s)]) w):=by
 by_cases c:4<=s.size
 ·have h:=MM s w f c (bs (yi (s.extract 0 (s.size-4)).data.toList)) (fun W d=>(V9 _ W (by unfold maxLen at*;rw[qk];omega)).mono fun e w' ⟨i,g⟩=>⟨i,d.trans (g.mono d.size)⟩);have a:yw s=decide (s.extract (s.size-4) s.size=bs (yi (s.extract 0 (s.size-4)).data.toList)):=by simp[yw,c]
  have b:opA s=if s.extract (s.size-4) s.size=bs (yi (s.extract 0 (s.size-4)).data.toList) then s.extract 0 (s.size-4) else ByteArray.empty:=by
   unfold opA;rw[a];simp
  rw[a,b];exact h
 ·have a:yw s=false:=by simp[yw,c]
  have b:opA s=ByteArray.empty:=by simp[opA,a]
  rw[a,b];clear a b;unfold maxLen at f;have j:decide ((s.size:Int)-4<0)=true:=by simp;omega
  go_enter func157,ntmps157;go_wp2_with fail;go_quiet (fail);go_wp2;go_ret2;exact⟨rfl,uu (qG _ _) _⟩
end
section
theorem tE(l:List UInt8):(bs l).data.toList=l:=by simp[bs]
theorem gK(s:Tw):s.data.toList.length=s.size:=Array.length_toList
theorem fG(s:Tw)(a b:Nat):(s.extract a b).data.toList=(s.data.toList.drop a).take (b-a):=by simp
theorem bS(s:Tw)(a b:Nat):s.extract a b=bs ((s.data.toList.drop a).take (b-a)):=by rw[<-fG,cr]
theorem rZ(s:Tw):(vv s).data.toList=s.data.toList++yi s.data.toList:=by simp[vv,bs]
theorem ld(s:Tw):(vv s).size=s.size+4:=by rw[<-gK,rZ,qL,pj,gK]
theorem MN(s:Tw):yw (vv s)=true:=by
 unfold yw;refine qB ⟨by rw[ld];omega, ?_⟩
 have a:(vv s).extract 0 ((vv s).size-4)=s:=by
  rw[bS,ld,rZ];have:s.data.toList.length=s.size:=gK s;rw[List.drop_zero,show s.size+4-4-0=s.data.toList.length by omega,List.take_left,cr]
 rw[a,bS,ld,rZ];have:s.data.toList.length=s.size:=gK s;rw[show s.size+4-4=s.data.toList.length by omega,List.drop_left,qm (by rw[pj];omega)]
end
section
open Go.RowKit
theorem MO(s:Tw)(k:Nat)(h:k<=7):un (s.data.toList.take k)<=72057594037927935:=by
 have b:=fe (s.data.toList.take k);have a:(s.data.toList.take k).length<=7:=by rw[qT];omega
 have c:256 ^ (s.data.toList.take k).length<=256 ^ 7:=Nat.pow_le_pow_right (by decide) a;have:(256:Nat) ^ 7=72057594037927936:=by decide
 omega
theorem MP(s:Tw)(k:Nat)(h:k<s.size):un (s.data.toList.take (k+1))=un (s.data.toList.take k)*256+(s[k]).toNat:=by
 rw[XM s k h,Fa]
theorem MR(s:Tw)(k:Nat)(h:k=s.size∨k=8)(a:k<=8):un (s.data.toList.take k)=jz s:=by
 unfold jz;rcases h with h|h
 ·subst h;rw[qm (by simp),qm (by simp;omega)]
 ·rw[h]
theorem MS(a c:Nat)(g:a<=72057594037927935)(f:c<2 ^ 8):bits .or .u64 ((a:Int)*256) (c:Int)=((a*256+c:Nat):Int):=by
 have e:(a:Int)*256=((a*256:Nat):Int):=by omega
 have h:=Nat.shiftLeft_add_eq_or_of_lt f a;rw[Nat.shiftLeft_eq]at h
 have b:(BitVec.ofInt 64 ((a*256:Nat):Int)).toNat=a*256:=by
  rw[BitVec.ofInt_natCast,BitVec.toNat_ofNat];exact Nat.mod_eq_of_lt (by omega)
 have d:(BitVec.ofInt 64 (c:Int)).toNat=c:=by
  rw[BitVec.ofInt_natCast,BitVec.toNat_ofNat];exact Nat.mod_eq_of_lt (by omega)
 rw[e];show IntKind.u64.wrap ((BitVec.ofInt 64 ((a*256:Nat):Int)|||BitVec.ofInt 64 (c:Int)).toNat:Int)=_;rw[BitVec.toNat_or,b,d,<-show a*256+c=a*256|||c from h,IntKind.wrap_u64];omega
theorem cI(s:Tw)(w:World)(g:s.size<=maxLen):
  Calls prog 131 #[s] w (X0 (.int .u64 (jz s:Nat)) w):=by
 unfold maxLen at g;by_cases l:s.size<=8
 all_goals
  go_enter func131,ntmps131;go_wp2
  go_loop [3,8] (fun n i=>∃k:Nat,k<=s.size/\k<=8/\i=.int .i64 k/\n=.int .u64 (un (s.data.toList.take k):Nat)) (fun _ i=>8-(intOf i).toNat)
  case atStart=>exact⟨0,qI _,by omega,rfl,rfl⟩
  case round =>
   obtain⟨k,p,d,rfl,rfl⟩:=hrel;by_cases f:k<s.size/\k<8
   ·obtain⟨a,j⟩:=f;have o:=MO s k (by omega);have hst:=qQ (MP s k a);have b:=(s[k]).toNat_lt;go_wp2
    go_round
    case rel=>exact⟨k+1,by omega,by omega,by go_num,by rw[hst.out,MS _ _ (by omega) b]⟩
    case measure=>simp[intOf];omega
   ·have c:=qQ (MR s k (by omega) d);go_wp2;go_ret;exact⟨my (by rw[c.out]),rfl⟩
end
section
def bQ(n p:Int):Bool:=decide (60<=n/\n<=120000/\n%60=0/\1<=p/\p<=16)
theorem tF{n p:Int}:bQ n p=true↔60<=n/\n<=120000/\n%60=0/\1<=p/\p<=16:=by unfold bQ;exact decide_eq_true_iff
def hdL(n p:Nat):List UInt8:=[98,108,109,UInt8.ofNat p]++(be 4 n++List.replicate 52 0)
theorem Vx(n p:Nat):(hdL n p).length=60:=by simp[hdL,je]
def hdP(n p:Nat):Tw:=vv (bs (hdL n p))
theorem Vz(n p:Nat):(hdP n p).size=64:=by unfold hdP;rw[ld,kP,Vx]
def pgT(t:Tw)(j:Nat):Tw:=t.extract (64*j) (64*j+64)
def pgW(t:Tw)(j:Nat):Bool:=decide (64*j+64<=t.size)&&yw (pgT t j)
theorem MT(t:Tw)(j:Nat):(pgT t j).data.toList=(t.data.toList.drop (64*j)).take 64:=by unfold pgT;rw[fG,show 64*j+64-64*j=64 by omega]
theorem M4(t:Tw)(j i:Nat)(hi:i<64):(pgT t j).data.toList[i]? = t.data.toList[64*j+i]? := by rw[MT,List.getElem?_take,qV hi,List.getElem?_drop]
theorem Xl{t:Tw}{j:Nat}(h:64*j+64<=t.size):(pgT t j).size=64:=by unfold pgT;rw[qk];omega
theorem Xm{t:Tw}{j:Nat}:pgW t j=true↔64*j+64<=t.size/\yw (pgT t j)=true:=by unfold pgW;rw[Bool.and_eq_true,decide_eq_true_iff]
def hpT(t:Tw):Nat:=(t.data.toList.getD 3 0).toNat
def hnT(t:Tw):Nat:=jz (t.extract 4 8)
def uQ(t:Tw):Bool:=decide (64<=t.size)&&(bQ (hnT t) (hpT t)&&decide (t.extract 0 64=hdP (hnT t) (hpT t)))
theorem Xn{t:Tw}:uQ t=true↔64<=t.size/\bQ (hnT t) (hpT t)=true/\t.extract 0 64=hdP (hnT t) (hpT t):=by unfold uQ;rw[Bool.and_eq_true,Bool.and_eq_true,decide_eq_true_iff,decide_eq_true_iff]
theorem Xp{t:Tw}(h:t.size<64):uQ t=false:=by
 unfold uQ;rw[qA (by omega),Bool.false_and]
theorem M5{t:Tw}(h:bQ (hnT t) (hpT t)=false):uQ t=false:=by
 unfold uQ;rw[h,Bool.false_and,Bool.and_false]
theorem M6{t:Tw}(h:¬t.extract 0 64=hdP (hnT t) (hpT t)):uQ t=false:=by
 unfold uQ;rw[qA h,Bool.and_false,Bool.and_false]
def byT(t:Tw)(k:Nat):UInt8:=t.data.toList.getD (64*(k/480+1)+k/8%60) 0
def Vj(t:Tw)(k:Nat):Bool:=(byT t k).toNat.testBit (k%8)
def bX(t:Tw)(k:Nat):Bool:=pgW t (k/480+1)&&!Vj t k
def gV(t:Tw)(h:Nat):Bool:=!uQ t||(gJ h (hpT t) ((8*hnT t:Nat):Int)).all fun k=>!bX t k
theorem Vk{t:Tw}(h:uQ t=false)(g:Nat):gV t g=true:=by unfold gV;rw[h];rfl
theorem M7{t:Tw}(h:uQ t=true)(g:Nat):gV t g=(gJ g (hpT t) ((8*hnT t:Nat):Int)).all fun k=>!bX t k:=by unfold gV;rw[h];rfl
theorem Mq{t:Tw}{g:Nat}(H:∀k∈gJ g (hpT t) ((8*hnT t:Nat):Int),bX t k=false):gV t g=true:=by
 unfold gV;rw[Bool.or_eq_true,List.all_eq_true];exact qY fun k a=>by rw[H k a];rfl
theorem Mx{t:Tw}{g k:Nat}(h:uQ t=true)(a:k∈gJ g (hpT t) ((8*hnT t:Nat):Int))(H:bX t k=true):gV t g=false:=by
 rw[M7 h,List.all_eq_false];exact⟨k,a,by rw[H];decide⟩
def pgs(a:Tw):Nat->Tw
 | 0=>ByteArray.empty
 | k+1=>pgs a k++vv (a.extract (60*k) (60*k+60))
theorem Vv(a:Tw)(k:Nat):pgs a (k+1)=pgs a k++vv (a.extract (60*k) (60*k+60)):=rfl
theorem Xr(a:Tw):∀k,60*k<=a.size->(pgs a k).size=64*k
 | 0,_=>rfl
 | k+1,h=>by rw[Vv,qy,Xr a k (by omega),ld,qk];omega
def fo(a:Tw)(p:Int):Tw:=if bQ a.size p then hdP a.size p.toNat++pgs a (a.size/60) else ByteArray.empty
theorem Vy{a:Tw}{p:Int}(h:bQ a.size p=false):fo a p=ByteArray.empty:=by unfold fo;rw[h];rfl
theorem Vu{a:Tw}{p:Int}(h:bQ a.size p=true):fo a p=hdP a.size p.toNat++pgs a (a.size/60):=by unfold fo;rw[h];rfl
theorem Mz{a:Tw}{p:Int}(h:bQ a.size p=true):(fo a p).size=64*(a.size/60+1):=by
 rw[Vu h,qy,Vz,Xr a _ (by omega)];omega
theorem Mj(l:List Nat)(p:Int)(n:Nat)(a:0<n)(b:n<=125000):(bs (dL l p ((8*n:Nat):Int))).size=n:=by
 rw[kP,VX (by unfold lz;exact qB (by omega)),VQ];omega
end
section
open Go.RowKit
theorem rJ(s:Tw):s.data.toList.length=s.size:=Array.length_toList
theorem dbs(l:List UInt8):(bs l).data.toList=l:=by simp[bs]
theorem Vg(s:Tw):bs s.data.toList=s:=by
 apply qi;simp[bs]
def de: Nat->Nat->List UInt8
 | 0,_=>[]
 | k+1,n=>UInt8.ofNat (48+n/10 ^ k%10)::de k n
theorem oB: ∀k n:Nat,(de k n).length=k
 | 0,_=>rfl
 | k+1,n=>by simp[de,oB k n]
def isD(c:UInt8):Bool:=decide (48<=c.toNat/\c.toNat<=57)
def dv(l:List UInt8):Nat:=l.foldl (fun a c=>a*10+(c.toNat-48)) 0
theorem Mk(l:List UInt8)(c:UInt8):dv (l++[c])=dv l*10+(c.toNat-48):=by simp[dv]
theorem Xs: ∀(l:List UInt8) (a:Nat),l.foldl (fun a c=>a*10+(c.toNat-48)) a=a*10 ^ l.length+dv l
 | [],a=>by simp[dv]
 | c::l,a=>by
   have h1:=Xs l (a*10+(c.toNat-48));have b:=Xs l (0*10+(c.toNat-48));simp only[dv,List.foldl_cons,List.length_cons]at*;rw[h1,b,Nat.pow_succ];simp only[Nat.add_mul,Nat.zero_mul,Nat.zero_add];rw[Nat.mul_assoc,Nat.mul_comm 10];omega
theorem Xt(c:UInt8)(l:List UInt8):dv (c::l)=(c.toNat-48)*10 ^ l.length+dv l:=by
 have h:=Xs l (0*10+(c.toNat-48));simp only[dv,List.foldl_cons]at*;rw[h];simp
theorem oC(d:Nat)(h:d<10):(UInt8.ofNat (48+d)).toNat=48+d:=by rw[UInt8.toNat_ofNat'];omega
theorem tH: ∀ {l:List UInt8},(∀c∈l,isD c=true)->dv l<10 ^ l.length
 | [],_=>by decide
 | c::l,h=>by
   have h1:=tH (fun x b=>h x (qF _ b));have a:=h c (qC ..);simp only[isD,decide_eq_true_eq]at a;rw[Xt,qu,Nat.pow_succ];have:(c.toNat-48)*10 ^ l.length<=9*10 ^ l.length:=Nat.mul_le_mul_right _ (by omega);omega
theorem Xa: ∀k n:Nat,dv (de k n)=n%10 ^ k
 | 0,n=>by rw[Nat.pow_zero,Nat.mod_one];rfl
 | k+1,n=>by
   have e:(10:Nat) ^ (k+1)=10 ^ k*10:=Nat.pow_succ ..;rw[de,Xt,oB,Xa k n,oC _ (Nat.mod_lt _ (by decide)),e,Nat.mod_mul,Nat.add_sub_cancel_left,Nat.mul_comm,Nat.add_comm]
theorem Vb: ∀(k n:Nat) (c:UInt8),c∈de k n->isD c=true
 | 0,n,c,h=>by cases h
 | k+1,n,c,h=>by
   rw[de]at h;rcases qM.1 h with rfl|h
   ·have:=Nat.mod_lt (n/10 ^ k) (show 0<10 by decide);unfold isD;rw[oC _ this];exact qB (by omega)
   ·exact Vb k n c h
theorem Mv: ∀ {l:List UInt8},(∀c∈l,isD c=true)->de l.length (dv l)=l:=by
 intro l a
 suffices h:∀(l:List UInt8) (m:Nat),(∀c∈l,isD c=true)->de l.length (m*10 ^ l.length+dv l)=l by
  have:=h l 0 a;simpa using this
 intro l
 induction l with
 | nil=>intro m _;rfl
 | cons c l j =>
   intro m a;have g:=tH (l:=l) (fun x b=>a x (qF _ b));have f:=a c (qC ..);simp only[isD,decide_eq_true_eq]at f;have i:0<10 ^ l.length:=Nat.pow_pos (by decide);rw[qu,de,Xt]
   have e:m*10 ^ (l.length+1)+((c.toNat-48)*10 ^ l.length+dv l)=(m*10+(c.toNat-48))*10 ^ l.length+dv l:=by
    rw[Nat.pow_succ,Nat.add_mul,Nat.mul_assoc m 10,Nat.mul_comm 10];omega
   rw[e,j _ (fun x b=>a x (qF _ b))]
   have d:((m*10+(c.toNat-48))*10 ^ l.length+dv l)/10 ^ l.length=m*10+(c.toNat-48):=by
    rw[Nat.mul_comm,Nat.mul_add_div i,Nat.div_eq_of_lt g,Nat.add_zero]
   rw[d];congr 1;apply UInt8.toNat_inj.1;rw[show(m*10+(c.toNat-48))%10=c.toNat-48 by omega,oC _ (by omega)];omega
theorem Vc: ∀k a b:Nat,Op.bytesLess (de k a) (de k b)=decide (a%10 ^ k<b%10 ^ k)
 | 0,a,b=>by simp[de,Op.bytesLess,Nat.mod_one]
 | k+1,a,b=>by
   have hk:=Vc k a b;have g:=Nat.mod_lt (a/10 ^ k) (show 0<10 by decide);have i:=Nat.mod_lt (b/10 ^ k) (show 0<10 by decide);have f:0<10 ^ k:=Nat.pow_pos (by decide);have o:=Nat.mod_lt a f;have r:=Nat.mod_lt b f;rw[de,de,Op.bytesLess,hk,Nat.pow_succ,Nat.mod_mul,Nat.mod_mul];have l:=oC _ g;have n:=oC _ i;generalize a/10 ^ k%10=x at*;generalize b/10 ^ k%10=y at*;generalize a%10 ^ k=p at*;generalize b%10 ^ k=q at*;generalize 10 ^ k=P at*;rw[Bool.eq_iff_iff];simp only[Bool.or_eq_true,Bool.and_eq_true,decide_eq_true_eq,beq_iff_eq];rcases Nat.lt_trichotomy x y with h|h|h
   ·have c:(x+1)*P<=y*P:=Nat.mul_le_mul_right _ h;rw[Nat.add_mul,Nat.mul_comm x,Nat.mul_comm y]at c;have d:UInt8.ofNat (48+x)<UInt8.ofNat (48+y):=UInt8.lt_iff_toNat_lt.2 (by omega);simp only[d,true_or,true_iff];omega
   ·subst h;simp
   ·have c:(y+1)*P<=x*P:=Nat.mul_le_mul_right _ h;rw[Nat.add_mul,Nat.mul_comm x,Nat.mul_comm y]at c;have d:¬UInt8.ofNat (48+x)<UInt8.ofNat (48+y):=fun e=>by have:=UInt8.lt_iff_toNat_lt.1 e;omega
    have j:¬UInt8.ofNat (48+x)=UInt8.ofNat (48+y):=fun e=>by have:=congrArg UInt8.toNat e;omega
    simp only[d,j,false_and,or_false,false_iff];omega
def nmS(c:UInt8)(n:Int):Tw:=if 0<=n/\n<=999999 then bs (c::de 6 n.toNat) else ByteArray.empty
theorem My{c:UInt8}{n:Int}(h:¬(0<=n/\n<=999999)):nmS c n=ByteArray.empty:=by unfold nmS;rw[qZ h]
theorem fW{c:UInt8}{n:Nat}(h:n<=999999):nmS c (n:Nat)=bs (c::de 6 n):=by unfold nmS;rw[qV (by omega),qa]
def isK(c:UInt8):Bool:=c==99||c==116||c==98
def vm(s:Tw):Bool:=match s.data.toList with
 | []=>false
 | c::l=>decide (l.length=6)&&isK c&&l.all isD
def npK(s:Tw):Nat:=if vm s=true then(s.data.toList.headD 0).toNat else 0
def npN(s:Tw):Nat:=if vm s=true then dv s.data.toList.tail else 0
theorem rK{s:Tw}(h:vm s=false):npK s=0/\npN s=0:=by simp[npK,npN,h]
theorem Xe{s:Tw}(h:vm s=true):∃c l,s=bs (c::l)/\l.length=6/\isK c=true/\(∀x∈l,isD x=true)/\npK s=c.toNat/\npN s=dv l:=by
 have b:=h;unfold vm at h;cases a:s.data.toList with
 | nil=>rw[a]at h;cases h
 | cons c l =>
   rw[a]at h;simp only[Bool.and_eq_true,decide_eq_true_eq,List.all_eq_true]at h;refine⟨c,l,by rw[<-a,Vg],h.1.1,h.1.2,h.2, ?_, ?_⟩
   ·unfold npK;rw[qV b,a];rfl
   ·unfold npN;rw[qV b,a];rfl
theorem Vd(c:UInt8)(l:List UInt8)(d:l.length=6)(a:isK c=true)(b:∀x∈l,isD x=true):vm (bs (c::l))=true/\npK (bs (c::l))=c.toNat/\npN (bs (c::l))=dv l:=by
 have h:vm (bs (c::l))=true:=by
  unfold vm;rw[dbs];simp only[Bool.and_eq_true,decide_eq_true_eq,List.all_eq_true];exact⟨⟨d,a⟩,b⟩
 refine⟨h, ?_, ?_⟩
 ·unfold npK;rw[qV h,dbs];rfl
 ·unfold npN;rw[qV h,dbs];rfl
theorem tI{s:Tw}(h:∀c l,s.data.toList=c::l->¬(l.length=6/\isK c=true/\∀x∈l,isD x=true)):vm s=false:=by
 cases e:vm s with
 | false=>rfl
 | true =>
   obtain⟨c,l,f,a,b,d,_⟩:=Xe e;exact absurd ⟨a,b,d⟩ (h c l (by rw[f,dbs]))
theorem Xi{c:UInt8}{n:Nat}(f:isK c=true)(h:n<=999999):vm (nmS c (n:Nat))=true/\npK (nmS c (n:Nat))=c.toNat/\npN (nmS c (n:Nat))=n:=by
 rw[fW h];obtain⟨a,b,d⟩:=Vd c (de 6 n) (oB _ _) f (fun x g=>Vb _ _ _ g);refine⟨a,b, ?_⟩;rw[d,Xa];exact Nat.mod_eq_of_lt (by omega)
theorem Vf{s:Tw}(h:vm s=true):npN s<=999999/\(npK s=99/\nmS 99 (npN s:Nat)=s∨npK s=116/\nmS 116 (npN s:Nat)=s∨npK s=98/\nmS 98 (npN s:Nat)=s):=by
 obtain⟨c,l,o,i,d,f,a,k⟩:=Xe h;have n:=tH f;rw[i]at n;have j:npN s<=999999:=by rw[k];omega
 have g:=Mv f;rw[i]at g;have b:nmS c (npN s:Nat)=s:=by rw[fW j,k,g,o]
 refine⟨j, ?_⟩;simp only[isK,Bool.or_eq_true,beq_iff_eq]at d;rcases d with(rfl|rfl)|rfl
 ·exact qX ⟨a,b⟩
 ·exact qY (qX ⟨a,b⟩)
 ·exact qY (qY ⟨a,b⟩)
theorem oE{c:UInt8}{n:Nat}(h:n<=999999):(nmS c (n:Nat)).size=7:=by rw[fW h,kP,qu,oB]
theorem Mu(c:UInt8){m n:Nat}(a:m<=999999)(b:n<=999999):Op.bytesLess (nmS c (m:Nat)).toList (nmS c (n:Nat)).toList=decide ((m:Int)<(n:Int)):=by
 rw[fW a,fW b,Lib.toList_data,Lib.toList_data,dbs,dbs,Op.bytesLess,Vc,Nat.mod_eq_of_lt (show m<10 ^ 6 by omega),Nat.mod_eq_of_lt (show n<10 ^ 6 by omega)];have:¬c<c:=fun h=>by have:=UInt8.lt_iff_toNat_lt.1 h;omega
 rw[Bool.eq_iff_iff];simp[this]
theorem Mg(c:UInt8){m n:Nat}(b:m<=999999)(d:n<=999999):((nmS c (m:Nat)).toList==(nmS c (n:Nat)).toList)=((m:Int)==(n:Int)):=by
 rw[Bool.eq_iff_iff,beq_iff_eq,beq_iff_eq];constructor
 ·intro h;rw[Lib.toList_data,Lib.toList_data,fW b,fW d,dbs,dbs]at h;have a:=congrArg (fun l=>dv l.tail) h;simp only[List.tail_cons,Xa]at a;omega
 ·intro h;have:m=n:=by omega
  rw[this]
end
section
open Go.RowKit
def DS(At:j6)(w0:World)(gd:Nat)(D:jL)(E:List Nat)(w:World):Prop :=
 ∃F,At w w0.1.size gd F D/\Below w0.1.size w0 w/\∀b∈E,b ∉ F/\b<w.1.size
structure jM(E:List Nat)(w w':World):Prop where
 size:w.1.size<=w'.1.size
 block:∀b∈E,w'.heap[b]? = w.heap[b]?
def yf(At:j6)(w0:World)(gd:Nat)(v:Value)(D':jL)(E:List Nat)(w:World)(e:Ending)(w':World):Prop:=e=.returned v/\DS At w0 gd D' E w'/\jM E w w'
abbrev jS(v:Value):List Nat:=v.ownBlock.toList
theorem ja{v:Value}{b:Nat}:b∈jS v↔v.ownBlock=some b:=by simp[jS]
section
variable {E E':List Nat}{w w' w'':World}
theorem jM.refl(E:List Nat)(w:World):jM E w w:=⟨qK _,fun _ _=>rfl⟩
theorem jM.trans(h:jM E w w')(k:jM E w' w''):jM E w w'':=⟨qR h.size k.size,fun b a=>(k.block b a).trans (h.block b a)⟩
theorem jM.less(h:jM E w w')(a:∀b∈E',b∈E):jM E' w w':=⟨h.size,fun b c=>h.block b (a b c)⟩
theorem jM.drew(h:jM E w w'):jM E w w'.drew:=⟨h.size,h.block⟩
theorem jM.xW{g:Nat}{t:TypeId}{cs:Array Value}(h:jM E w w')(a:jN w g t cs)(b:g∈E):jN w' g t cs:=(h.block g b).trans a
theorem jM.xP{B:List Nat}(c:jP B w w')(a:∀b∈E,b<w.1.size/\b ∉ B):jM E w w':=⟨c.size,fun b h=>c.block b (a b h).1 (a b h).2⟩
theorem jM.xA(a:Below w.1.size w w')(c:∀b∈E,b<w.1.size):jM E w w':=⟨a.size,fun b h=>a.block b (c b h)⟩
end
section
variable {At:j6}{w0 w w':World}{gd:Nat}{D D':jL}{E E':List Nat}
theorem DS.kept(h:DS At w0 gd D E w):Below w0.1.size w0 w:=by obtain⟨F,b,a,c⟩:=h;exact a
theorem DS.lt(h:DS At w0 gd D E w):∀b∈E,b<w.1.size:=by obtain⟨F,d,f,a⟩:=h;exact fun b c=>(a b c).2
theorem DS.less(h:DS At w0 gd D E w)(f:∀b∈E',b∈E):DS At w0 gd D E' w:=by
 obtain⟨F,a,c,d⟩:=h;exact⟨F,a,c,fun b g=>d b (f b g)⟩
theorem DS.xI(api:j8 At)(h:DS At w0 gd D E w):D.l.Pairwise (fun f g=>vT f.name g.name=true):=by
 obtain⟨F,a,b,c⟩:=h;exact(api.xI a).1
theorem DS.zE(api:j8 At)(h:DS At w0 gd D E w){B:List Nat}(c:jP B w w')(g:∀b∈B,b∈E/\w0.1.size<=b):DS At w0 gd D E w':=by
 obtain⟨F,j,f,a⟩:=h;exact⟨F,api.xC j c (fun x d k=>(a x (g x k).1).1 d),f.trans (c.below f.size (fun x d=>(g x d).2)),fun b i=>⟨(a b i).1,qS (a b i).2 c.size⟩⟩
theorem DS.below(api:j8 At)(h:DS At w0 gd D E w)(a:Below w.1.size w w'):DS At w0 gd D E w':=by
 obtain⟨F,g,c,d⟩:=h;exact⟨F,api.xC g (jP.xA a) (fun _ _=>by simp),c.trans (a.mono c.size),fun b f=>⟨(d b f).1,qS (d b f).2 a.size⟩⟩
theorem DS.drew(api:j8 At)(h:DS At w0 gd D E w):DS At w0 gd D E w.drew:=h.below api (qG _ _).drew
theorem DS.more(api:j8 At)(h:DS At w0 gd D E w)(c:Below w.1.size w w'){B:List Nat}(i:∀b∈B,w.1.size<=b/\b<w'.1.size):DS At w0 gd D (B++E) w':=by
 obtain⟨F,d,f,g⟩:=h;refine⟨F,api.xC d (jP.xA c) (fun _ _=>by simp),f.trans (c.mono f.size),fun b a=>?_⟩;rcases qD.1 a with a|a
 ·exact⟨fun j=>by have:=(api.low d b j).2;have:=(i b a).1;omega,(i b a).2⟩
 ·exact⟨(g b a).1,qS (g b a).2 c.size⟩
theorem DS.xE(api:j8 At)(h:DS At w0 gd D E w){P:Program}{f:FuncId}{args:Array Value}{v:Value}(p:∀F,At w w0.1.size gd F D->Calls P f args w (yq At w0.1.size gd F w v D')):Calls P f args w (yf At w0 gd v D' E w):=by
 obtain⟨F,g,i,c⟩:=h;refine(p F g).mono ?_;rintro e w'⟨j,l,n,o,d⟩;refine⟨l,⟨j,n,i.trans (d.below i.size (fun x r=>(api.low g x r).1)),fun b a=>⟨fun q=>?_,qS (c b a).2 d.size⟩⟩,d.size,fun b a=>d.block b (c b a).2 (c b a).1⟩;rcases o b q with k|k
 ·exact(c b a).1 k
 ·have:=(c b a).2;omega
theorem DS.at_(h:DS At w0 gd D E w):∃F,At w w0.1.size gd F D:=by obtain⟨F,a,-⟩:=h;exact⟨F,a⟩
theorem DS.size(api:j8 At)(h:DS At w0 gd D E w)(ok:WfP D)(n:Tw)(b:n.size<=maxLen):Calls prog 129 #[ptr gd,n] w (X0 (.tuple #[.int .i64 ((j9 D n).1:Nat),err (j9 D n).2]) w):=by
 obtain⟨F,a⟩:=h.at_;exact api.zP n a ok.ok b
end
theorem tL(D:jL)(n:Tw):(D.down=true/\j9 D n=(0,61))∨(D.down=false/\((j9 D n).2=0∨(j9 D n).2=4)):=by
 unfold j9;cases D.down
 ·refine qY ⟨rfl, ?_⟩;rw[qZ (by decide)];split
  ·exact qY rfl
  ·exact qX rfl
 ·exact qX ⟨rfl,rfl⟩
theorem Vh{D:jL}(h:WfP D)(n:Tw):(j9 D n).1<=1048576:=by
 unfold j9;split
 ·exact qI _
 ·split
  ·exact qI _
  ·rename_i f a;exact(h.ok.xq f (qN a)).2
theorem tM{D:jL}(h:WfP D)(n:Tw):(rdW D n).1.size<=D.cap:=by
 unfold rdW;split
 ·unfold kM;split
  ·exact qI _
  ·dsimp only;split
   ·exact qI _
   ·rename_i f a;split
    ·exact qI _
    ·have:=Xk (qN a);have:=h.used;show(f.data.extract _ _).size<=_;rw[qk];omega
 ·exact qI _
end
section
open Go.RowKit
def stS(s:Tw):Bool:=decide (1<=s.size/\s.size<=32)
theorem Mb{s:Tw}{c:UInt8}{l:List UInt8}(h:s.data.toList=c::l)(j:Nat)(d:j<l.length)(a:j+1<s.size):s[j+1]'a=l[j]:=by
 have b:s.data.toList[j+1]'(by rw[rJ];exact a)=l[j]:=by simp[h]
 exact b
theorem Vl{s:Tw}{c:UInt8}{l:List UInt8}(h:s.data.toList=c::l)(a:0<s.size):s[0]'a=c:=by
 have b:s.data.toList[0]'(by rw[rJ];exact a)=c:=by simp[h]
 exact b
theorem Mc{l:List UInt8}{j:Nat}(a:j<l.length):dv (l.take (j+1))=dv (l.take j)*10+(l[j].toNat-48):=by
 rw[xQ,qE a];exact Mk _ _
structure kZ: Prop where
 stream:∀(s:Tw) (w:World),s.size<=maxLen->Calls prog 46 #[s] w (X3 (.bool (stS s)) w)
 chunk:∀(n:Int) (w:World),(Lit.int .i64 n).wf=true->Calls prog 128 #[n] w (X3 (.string (nmS 99 n)) w)
 table:∀(n:Int) (w:World),(Lit.int .i64 n).wf=true->Calls prog 123 #[n] w (X3 (.string (nmS 116 n)) w)
 zN:∀(n:Int) (w:World),(Lit.int .i64 n).wf=true->Calls prog 124 #[n] w (X3 (.string (nmS 98 n)) w)
 parse:∀(s:Tw) (w:World),s.size<=maxLen->Calls prog 126 #[s] w (X3 (.tuple #[.int .u8 (npK s:Nat),.int .i64 (npN s:Nat),.bool (vm s)]) w)
end
section
open Go.RowKit
open Go.Maps (Keyed)
def pgC(l:List UInt8):Array Value:=(l.map fun c=>Value.int .u8 (c.toNat:Int)).toArray
def pgV(l:List UInt8):Value:=.agg (pgC l)
theorem rV(l:List UInt8):(pgC l).size=l.length:=by unfold pgC;rw[List.size_toArray,qq]
theorem Md(l:List UInt8){i:Nat}(hi:i<l.length):(pgC l)[i]? = some (.int .u8 ((l.getD i 0).toNat:Int)):=by
 unfold pgC;rw[List.getElem?_toArray,qv,qj,qE hi];rfl
theorem rY(l:List UInt8):(pgC l).all (·.oneCell')=true:=by
 unfold pgC;rw[List.all_toArray,List.all_eq_true];intro x a;obtain⟨c,_,rfl⟩:=qP.1 a;rfl
def dN: Value->Option UInt8
 | .int .u8 n=>if n=((UInt8.ofNat n.toNat).toNat:Int) then some (UInt8.ofNat n.toNat) else none
 | _=>none
theorem Mf(c:UInt8):dN (.int .u8 (c.toNat:Int))=some c:=by simp[dN]
theorem Mh{v:Value}{c:UInt8}(h:dN v=some c):v=.int .u8 (c.toNat:Int):=by
 unfold dN at h;split at h
 ·rename_i n;split at h
  ·rename_i e;injection h with h;rw[<-h,<-e]
  ·cases h
 ·cases h
def pgR: Value->Option (DataW Unit × List MemPlace)
 | .agg cs=>(cs.toList.mapM dN).map fun l=>(.lit (.string l),[])
 | _=>none
theorem Vm: ∀l:List UInt8,(l.map fun c=>Value.int .u8 (c.toNat:Int)).mapM dN=some l
 | []=>rfl
 | c::l=>by rw[List.map_cons,List.mapM_cons,Mf,Vm l];rfl
theorem Vn: ∀ {cs:List Value} {l:List UInt8},cs.mapM dN=some l->cs=l.map fun c=>Value.int .u8 (c.toNat:Int)
 | [],l,h=>by rw[List.mapM_nil]at h;injection h with h;rw[<-h];rfl
 | v::cs,l,h=>by
   rw[List.mapM_cons]at h;cases e1:dN v with
   | none=>rw[e1]at h;cases h
   | some c =>
     cases e2:cs.mapM dN with
     | none=>rw[e1,e2]at h;cases h
     | some m =>
       rw[e1,e2]at h;injection h with h;rw[<-h,List.map_cons,<-Vn e2,<-Mh e1]
theorem Ml(l:List UInt8):pgR (pgV l)=some (.lit (.string l),[]):=by
 show((pgC l).toList.mapM dN).map _=_;unfold pgC;rw[List.toList_toArray,Vm];rfl
theorem Mm{v:Value}{y:DataW Unit × List MemPlace}(h:pgR v=some y):∃l,v=pgV l/\y=(.lit (.string l),[]):=by
 unfold pgR at h;split at h
 ·rename_i cs;cases e:cs.toList.mapM dN with
  | none=>rw[e]at h;cases h
  | some l =>
    rw[e]at h;injection h with h;refine⟨l, ?_,h.symm⟩;unfold pgV pgC;rw[<-Vn e,Array.toArray_toList]
 ·cases h
def mw(k:Nat):Lit:=.int .i64 (k:Int)
theorem Vp{a b:Nat}(h:mw a=mw b):a=b:=by unfold mw at h;injection h with _ h;omega
theorem Vr{k:Nat}(h:k<=1000000):keyOf prog 3 (.int .i64 (k:Int))=some (mw k):=Maps.keyOf_int_mk Tryz.underlying3 (WalkArith.wf_i64 (by omega))
theorem Mn(k:Nat):WideAt.IsKeyLit (mw k):=trivial
theorem Vs: Keyed prog 3:=Maps.int_keyed Tryz.underlying3
theorem Vt(w:World):(zeroValue 335).run prog w=.ok (pgV (List.replicate 60 0)) w:=by kernel_rfl
theorem tN: (prog.info? 335).map (·.size)=some 60:=by kernel_rfl
def pgB(t:Tw)(k:Nat):List UInt8:=(pgT t (k+1)).data.toList.take 60
theorem Va{t:Tw}{k:Nat}(h:pgW t (k+1)=true):(pgB t k).length=60:=by
 unfold pgB;rw[qT,gK,Xl (Xm.1 h).1];decide
theorem Mp{t:Tw}{k:Nat}(x:Nat)(b:k=x/480):(pgB t k).getD (x/8%60) 0=byT t x:=by
 have a:x/8%60<60:=Nat.mod_lt _ (by decide);unfold pgB byT;rw[qj,qj,List.getElem?_take,qV a,M4 _ _ _ (by omega),b]
structure Mr(D0:DataW Unit)(t:Tw)(m:Nat):Prop where
 yes:∀k,k<m->pgW t (k+1)=true->∀zd,D0.atKey (mw k) zd=.lit (.string (pgB t k))
 no:∀k,m<=k∨pgW t (k+1)=false->Maps.has D0 (mw k)=false
def yW(w:World)(mb:Nat)(t:Tw)(m:Nat):Prop:=∃a,w.ownsMap prog 3 pgR mb m a/\Maps.IsMap a/\Mr a t m
section
variable {w w':World}{mb m:Nat}{t:Tw}
theorem yW.lt(h:yW w mb t m):mb<w.1.size:=by
 obtain⟨b,a,c⟩:=h;exact a.lt
theorem yW.of_block(h:yW w mb t m)(e:w'.heap[mb]? = w.heap[mb]?):yW w' mb t m:=by
 obtain⟨a,⟨c,b,f,r⟩,d⟩:=h;exact⟨a,⟨c,b,e.trans f,r⟩,d⟩
theorem yW.below(h:yW w mb t m)(a:Below w.1.size w w'):yW w' mb t m:=h.of_block (a.block _ h.lt)
theorem yW.new(w:World)(t:Tw):yW (w.alloc (.map #[] 0)) w.1.size t 0 :=
 ⟨.map [],World.ownsMap_made w _ _ _,⟨[],rfl⟩,fun k a=>by omega,fun k _=>rfl⟩
theorem yW.skip(h:yW w mb t m)(g:pgW t (m+1)=false):yW w mb t (m+1):=by
 obtain⟨c,d,f,b⟩:=h;refine⟨c,d.mono (Nat.le_succ m),f,fun k a hw=>?_,fun k a=>?_⟩
 ·by_cases e:k=m
  ·rw[e,g]at hw;cases hw
  ·exact b.yes k (by omega) hw
 ·refine b.no k ?_;rcases a with a|a
  ·exact qX (by omega)
  ·exact qY a
theorem yW.look(h:yW w mb t m){k:Nat}(r:k<=1000000):
  (Instr.lookup 235 (.map (some mb)) (.int .i64 (k:Int)) true).run prog w=.ok (.tuple #[pgV (if k<m/\pgW t (k+1)=true then pgB t k else List.replicate 60 0),.bool (decide (k<m)&&pgW t (k+1))]) w:=by
 obtain⟨s,⟨z,u,q,F,_,rfl⟩,A,g⟩:=h;rcases Maps.fit_look true Vs Tryz.underlying235 (Vt w) q F (Vr r) with⟨i,_,d⟩|⟨v,y,_,_,i,p,d,_⟩
 ·have n:¬(k<m/\pgW t (k+1)=true):=fun f=>by
   have a:=g.yes k f.1 f.2;have j:=a (.lit (.int .i64 0));rw[d]at j;cases j
  rw[i,qZ n]
  have:(decide (k<m)&&pgW t (k+1))=false:=by
   by_cases c:k<m
   ·rw[qB c,Bool.true_and];exact Bool.eq_false_iff.2 (fun e=>n ⟨c,e⟩)
   ·rw[qA c,Bool.false_and]
  rw[this];rfl
 ·have b:k<m/\pgW t (k+1)=true:=by
   refine Classical.byContradiction fun f=>?_
   have a:=g.no k (by
    by_cases c:k<m
    ·exact qY (Bool.eq_false_iff.2 (fun e=>f ⟨c,e⟩))
    ·exact qX (by omega))
   rw[Maps.has_true_of_atKey d]at a;cases a
  have a:=g.yes k b.1 b.2 (.lit (.int .i64 0));rw[d]at a;obtain⟨l,o,rfl⟩:=Mm p;simp only[DataW.lit.injEq,Lit.string.injEq]at a;rw[i,qV b,qB b.1,b.2,o,a];rfl
theorem yW.put(h:yW w mb t m)(l:m<=1000000)(hw:pgW t (m+1)=true):∃w',(Instr.mapUpdate 235 (.map (some mb)) (.int .i64 (m:Int)) (pgV (pgB t m))).run prog w=.ok () w'/\yW w' mb t (m+1)/\w.grownBy w' (some mb):=by
 obtain⟨p,g,c,d⟩:=h;obtain⟨w',o,n,i⟩:=g.update Vs Tryz.underlying235 (by unfold maxLen;omega) (Vr l) (Ml (pgB t m));refine⟨w',o,⟨_,n,c.put _ _,fun k a j=>?_,fun k a=>?_⟩,i⟩
 ·intro f;by_cases e:k=m
  ·subst e;exact Maps.atKey_put_same c (Mn k) _ f
  ·rw[Maps.atKey_put_other (fun b=>e (Vp b))];exact d.yes k (by omega) j f
 ·by_cases e:k=m
  ·subst e;rcases a with a|a
   ·omega
   ·rw[hw]at a;cases a
  ·rw[Maps.has_put_other (fun b=>e (Vp b))];refine d.no k ?_;rcases a with a|a
   ·exact qX (by omega)
   ·exact qY a
end
def gY(w:World)(f:Value)(t:Tw):Prop :=
 (uQ t=false/\f=.agg #[.int .i64 0,.int .i64 0,.map none]) ∨
 (uQ t=true/\∃mb,f=.agg #[.int .i64 (hpT t:Nat),.int .i64 (hnT t:Nat),.map (some mb)]/\yW w mb t (hnT t/60))
theorem gY.below{w w':World}{f:Value}{t:Tw}(h:gY w f t)(a:Below w.1.size w w'):gY w' f t:=by
 rcases h with h|⟨h,mb,e,b⟩
 ·exact qX h
 ·exact qY ⟨h,mb,e,b.below a⟩
theorem gY.none(w:World):gY w (.agg #[.int .i64 0,.int .i64 0,.map none]) ByteArray.empty:=qX ⟨Xp (by decide),rfl⟩
end
section
open Go.RowKit
theorem Ve{a b:Int}(h:a=b):Value.int .u64 a=.int .u64 b:=by rw[h]
theorem tO{a b:Int}(h:a=b):Ending.returned (.int .u64 a)=.returned (.int .u64 b):=by rw[h]
theorem Ms(x:Nat)(a:x<18446744073709551616):IntKind.u64.wrap (bits .xor .u64 (x:Int) ((x:Int)/4294967296)*11400714819323198485)=((mc x:Nat):Int):=mixStep_u64 x 4294967296 11400714819323198485 a
theorem Mt(x:Nat):bits .xor .u64 ((mc x:Nat):Int) (((mc x:Nat):Int)/536870912)=((pk x:Nat):Int):=xorShift_u64 (mc x) 536870912 (Kt x)
theorem Ma(x:Nat)(w:World)(a:x<18446744073709551616):
  Calls prog 173 #[.int .u64 (x:Nat)] w (X0 (.int .u64 (pk x:Nat)) w):=by
 go_enter func173,ntmps173;go_wp2;go_ret;exact⟨tO (by rw[Ms x a,Mt]),rfl⟩
theorem Me: bits .and .u64 (IntKind.u64.wrap (-17)) 63=47:=by decide +kernel
theorem Mi(x:Nat)(a:x<18446744073709551616):x*140737488355328%18446744073709551616|||x/131072=cH x:=by
 have e:x*140737488355328%18446744073709551616=x%131072*140737488355328:=by omega
 have h:=nat_join 47 (x%131072*140737488355328) (x/131072) (Nat.mul_mod_left _ _) (by omega);rw[e,h];unfold cH;omega
theorem Mo(x:Nat)(c:x<18446744073709551616):bits .or .u64 (IntKind.u64.wrap ((x:Int)*140737488355328)) ((x:Int)/131072)=((cH x:Nat):Int):=by
 have a:IntKind.u64.wrap ((x:Int)*140737488355328)=((x*140737488355328%18446744073709551616:Nat):Int):=by
  rw[IntKind.wrap_u64];omega
 have b:(x:Int)/131072=((x/131072:Nat):Int):=by omega
 rw[a,b,u64_or_nat _ _ (by omega) (by omega),Mi x c]
theorem Mw(x:Nat)(w:World)(a:x<18446744073709551616):
  Calls prog 312 #[.int .u64 (x:Nat),.int .i64 (-17)] w (X0 (.int .u64 (cH x:Nat)) w):=by
 have b:=Me;go_enter func312,ntmps312;go_wp2;go_ret;exact⟨tO (Mo x a),rfl⟩
theorem NQ(x:Nat)(a:x<18446744073709551616):bits .or .u64 ((cH x:Nat):Int) 1=((dI x:Nat):Int):=by
 have h:=u64_or_nat (cH x) 1 (XS a) (by decide);rw[Ha]at h;exact h
theorem NX(x:Nat)(w:World)(a:x<18446744073709551616):
  Calls prog 296 #[.int .u64 (x:Nat)] w (X0 (.int .u64 (dI x:Nat)) w):=by
 have h:=qQ (fun w=>Mw x w a);have c:=XS a;have b:=qQ (NQ x a);generalize cH x=r at*;go_enter func296,ntmps296;go_wp2_with fail;refine X5 (h.out _) ?_;go_wp2;go_ret;exact⟨tO b.out,rfl⟩
theorem NZ(y c:Nat)(b:y<18446744073709551616)(a:c<256):IntKind.u64.wrap (bits .xor .u64 (y:Int) (c:Int)*1099511628211)=((hst y c:Nat):Int):=by
 rw[u64_xor_nat y c b (Hb a),IntKind.wrap_u64,Hf,Int.natCast_emod,Int.natCast_mul];rfl
theorem NJ(s:Nat)(a:s<18446744073709551616):bits .xor .u64 14695981039346656037 (s:Int)=((py^^^s:Nat):Int):=u64_xor_nat 14695981039346656037 s (by decide) a
theorem Vi(x:Nat)(s:Tw)(w:World)(j:x<18446744073709551616)(r:s.size<=maxLen):
  Calls prog 109 #[.int .u64 (x:Nat),s] w (X0 (.int .u64 (kx x s.data.toList:Nat)) w):=by
 unfold maxLen at r;by_cases f:x=0
 ·subst f;go_enter func109,ntmps109;go_wp2;go_ret;exact⟨rfl,rfl⟩
 ·have u:((x:Int)==0)=false:=by simp;omega
  have z:=NJ x j;have q:=xlt Hr j;have g:kx x s.data.toList=pk (gZ (py^^^x) s.data.toList):=by unfold kx;rw[qZ f]
  generalize py^^^x=b at*;have l:=qQ g;clear g;go_enter func109,ntmps109;go_wp2
  go_loop [5,13] (fun a i=>∃k:Nat,k<=s.size/\i=.int .i64 k/\a=.int .u64 (gZ b (s.data.toList.take k):Nat)) (fun _ i=>s.size-(intOf i).toNat)
  case atStart=>exact⟨0,by omega,rfl,Ve (by rw[List.take_zero,XP])⟩
  case round =>
   obtain⟨k,v,rfl,rfl⟩:=hrel;have d:gZ b (s.data.toList.take k)<18446744073709551616:=Hn _ q;by_cases p:k<s.size
   ·have c:=qQ (XM s k p);have n:=qQ (Hl b (s.data.toList.take k) s[k]);have o:=(s[k]).toNat_lt;generalize gZ b (s.data.toList.take k)=y at*;go_wp2
    go_round
    case rel=>exact⟨k+1,by omega,by go_num,Ve (by rw[c.out,n.out];exact NZ y _ d o)⟩
    case measure=>simp[intOf];omega
   ·obtain rfl:k=s.size:=(by omega);have c:List.take s.size s.data.toList=s.data.toList:=qm (by simp);rw[c]at d ⊢;clear c;generalize gZ b s.data.toList=y at*;have h:=qQ (fun w=>Ma y w d);go_wp2_with fail;refine X5 (h.out _) ?_;go_wp2;go_ret;exact⟨tO (by rw[l.out]),rfl⟩
theorem NK(h n m:Nat)(a:h<18446744073709551616)(b:0<m):prb h (n:Nat) (m:Nat)=(h+n*dI h%18446744073709551616)%18446744073709551616%m:=by
 unfold prb;rw[qZ (by omega),qa,qa];congr 1;omega
theorem NV(h n m s:Nat)(b:h<18446744073709551616)(f:n<9223372036854775808)(d:m<9223372036854775808)(a:0<m)(c:dI h=s):
  wrap64 (Int.tmod (IntKind.u64.wrap ((h:Int)+IntKind.u64.wrap ((n:Int)*(s:Int)))) (m:Int))=((prb h (n:Nat) (m:Nat):Nat):Int):=by
 rw[NK h n m b a,c,IntKind.wrap_u64,IntKind.wrap_u64,<-Int.natCast_mul];have e:((h:Int)+((n*s:Nat):Int)%18446744073709551616)%18446744073709551616=(((h+n*s%18446744073709551616)%18446744073709551616:Nat):Int):=by omega
 rw[e];generalize (h+n*s%18446744073709551616)%18446744073709551616=x;rw[<-Int.ofNat_tmod];have:=Nat.mod_lt x a;generalize x%m=y at*;unfold wrap64;omega
theorem Vo(h:Nat)(i b:Int)(w:World)(a:h<18446744073709551616)(j:(Lit.int .i64 i).wf=true)(g:(Lit.int .i64 b).wf=true):
  Calls prog 259 #[.int .u64 (h:Nat),i,b] w (X0 (.int .i64 (prb h i b:Nat)) w):=by
 have l:=bounds_i64 j;have k:=bounds_i64 g;by_cases c:b<1
 ·have e:prb h i b=0:=by unfold prb;rw[qV (qX c)]
  rw[e];go_enter func259,ntmps259;go_wp2;go_ret;exact⟨rfl,rfl⟩
 ·by_cases d:i<0
  ·have e:prb h i b=0:=(by unfold prb;rw[qV (qY d)]);rw[e];go_enter func259,ntmps259;go_wp2;go_ret;exact⟨rfl,rfl⟩
  ·obtain⟨n,rfl⟩:∃n:Nat,i=n:=⟨i.toNat,by omega⟩
   obtain⟨m,rfl⟩:∃m:Nat,b=m:=⟨b.toNat,by omega⟩
   have f:=qQ fun w=>NX h w a
   have o:=Hs a;have hw:=qQ (NV h n m (dI h) a (by omega) (by omega) (by omega) rfl);generalize dI h=s at*;generalize prb h (n:Nat) (m:Nat)=r at*;have p:((m:Int)==0)=false:=(by simp;omega);go_enter func259,ntmps259;go_wp2_with fail;refine X5 (f.out _) ?_;go_wp2;go_ret;refine⟨my ?_,rfl⟩;exact hw.out
theorem NY(k:Nat)(w:World)(a:k<9223372036854775808):
  Calls prog 267 #[k] w (X0 (.int .u8 (2 ^ (k%8):Nat)) w):=by
 go_enter func267,ntmps267;go_wp2;go_ret;refine⟨my ?_,rfl⟩;have h:=Xq (Nat.mod_lt k (by decide):k%8<8);have e:(2:Int) ^ (k%8)=((2 ^ (k%8):Nat):Int):=by rw[Int.natCast_pow];rfl
 rw[e];generalize 2 ^ (k%8)=x at*;omega
def dO(d:Nat->Value)(w:World)(v:Value)(l:List Nat):Prop :=
 (l=[]/\∃a c,v=.slice a 0 c) ∨
 (0<l.length/\∃b off c,v=.slice (some ⟨b,off,none⟩) l.length c/\l.length<=c/\b<w.1.size/\∀i,i<l.length->w.cell? ⟨b,off+i,none⟩=some (d (l.getD i 0)))
def gL(n:Nat):Value:=.int .u64 (n:Int)
theorem dO.xy{w:World}{base:Nat}{e:TypeId}{v:Value}{l:List Nat}(d:Nat->Value)(h:w.ownsRow base e 1 v l.length (l.map d)):dO d w v l:=by
 have b:=h;rcases h.2 with⟨a,j⟩|⟨g,f,q,a,r,k,p,s,u,y⟩
 ·exact qX ⟨xK.1 j,none,0,a⟩
 ·by_cases c:l=[]
  ·subst c;exact qX ⟨rfl,_,_,a⟩
  ·refine qY ⟨List.length_pos_iff.2 c,g,0,f,a,p, ?_,fun i n=>?_⟩
   ·obtain⟨o,_⟩:=qn.1 k;exact o
   ·rw[a]at b;rw[qe,b.cellAt i (by omega),qv,qj,qE n];rfl
theorem NU{l:List Nat}(h:Xz l)(k:Nat):l.getD k 0<18446744073709551616:=by
 by_cases a:k<l.length
 ·rw[qj,qE a];exact h _ (List.getElem_mem a)
 ·rw[qj,xX (by omega)];exact(by decide:(0:Nat)<18446744073709551616)
theorem NG(l:List Nat)(k:Nat)(h:k<l.length):l.take (k+1)=l.take k++[l.getD k 0]:=by
 rw[xQ,qE h,qj,qE h];rfl
theorem NW{a b:Nat}(d:a<18446744073709551616)(f:b<18446744073709551616):(FloatKind.f64.format.order a b==some Ordering.lt)=(!vC a&&!vC b&&decide (sr a<sr b)):=by
 show(Ieee.double.order a b==some Ordering.lt)=_;rw[VG d f];cases vC a<;>cases vC b<;>simp[compare,compareOfLessAndEq];by_cases h:sr a<sr b
 ·simp[h]
 ·by_cases c:sr a=sr b<;>simp[h,c]
theorem Vw{a b:Nat}(d:a<18446744073709551616)(f:b<18446744073709551616):(FloatKind.f64.format.order a b==some Ordering.eq)=(!vC a&&!vC b&&decide (sr a=sr b)):=by
 show(Ieee.double.order a b==some Ordering.eq)=_;rw[VG d f];cases vC a<;>cases vC b<;>simp[compare,compareOfLessAndEq];by_cases h:sr a<sr b
 ·have:¬sr a=sr b:=by omega
  simp[h,this]
 ·by_cases c:sr a=sr b<;>simp[c,h]
theorem NA{a:Nat}(b:a<18446744073709551616):(FloatKind.f64.format.order a a==some Ordering.eq) = !vC a:=by
 rw[Vw b b];cases vC a<;>simp
theorem NB{a b:Nat}:(FloatKind.f64.format.order a b != some Ordering.eq) = !(FloatKind.f64.format.order a b==some Ordering.eq):=rfl
theorem NC{a b:Nat}(d:a<18446744073709551616)(f:b<18446744073709551616):(FloatKind.f64.format.order a b==some Ordering.lt||FloatKind.f64.format.order a b==some Ordering.eq)=(!vC a&&!vC b&&decide (sr a<=sr b)):=by
 rw[NW d f,Vw d f];cases vC a<;>cases vC b<;>simp;by_cases h:sr a<sr b
 ·simp[h,Int.le_of_lt h]
 ·by_cases c:sr a=sr b
  ·simp[c]
  ·have g:¬sr a<=sr b:=(by omega);simp[h,c,g]
def jj(p:Tw):Tw:=vv (bs (be 4 p.size)++p)++bs (be 4 p.size)
theorem tP(s:Tw):(vv s).size=s.size+4:=by unfold vv;rw[qy,kP,pj]
theorem gU(p:Tw):(jj p).size=p.size+12:=by
 unfold jj;rw[qy,tP,qy,kP,je];omega
def prS(p:Tw):Tw:=if 2000<p.size then ByteArray.empty else jj p
def prE(p:Tw):Int:=if 2000<p.size then 3 else 0
def vQ(s:Tw)(k:Nat):Nat:=jz (s.extract k (k+4))
def ud(s:Tw)(k:Nat):Bool:=decide (k+12<=s.size/\vQ s k<=2000/\k+vQ s k+12<=s.size/\s.extract k (k+vQ s k+12)=jj (s.extract (k+4) (k+4+vQ s k)))
def bZ(s:Tw)(a:Int):Bool:=decide (0<=a)&&ud s a.toNat
def bT(s:Tw)(a:Int):Tw:=if bZ s a=true then s.extract (a.toNat+4) (a.toNat+4+vQ s a.toNat) else ByteArray.empty
def vy(s:Tw)(a:Int):Nat:=if bZ s a=true then a.toNat+vQ s a.toNat+12 else 0
theorem lf(s:Tw)(k:Nat):bZ s (k:Nat)=ud s k:=by simp[bZ]
theorem YQ{s:Tw}{a:Int}(h:bZ s a=false):bT s a=ByteArray.empty/\vy s a=0:=by simp[bT,vy,h]
theorem Xo{s:Tw}{k:Nat}(h:ud s k=true):bZ s (k:Nat)=true/\bT s (k:Nat)=s.extract (k+4) (k+4+vQ s k)/\vy s (k:Nat)=k+vQ s k+12:=by
 have e:bZ s (k:Nat)=true:=by rw[lf];exact h
 simp[bT,vy,e]
theorem rU{s:Tw}{k:Nat}:ud s k=true↔(k+12<=s.size/\vQ s k<=2000/\k+vQ s k+12<=s.size/\s.extract k (k+vQ s k+12)=jj (s.extract (k+4) (k+4+vQ s k))):=by simp[ud]
theorem oF{s:Tw}{k:Nat}(h:¬(k+12<=s.size/\vQ s k<=2000/\k+vQ s k+12<=s.size/\s.extract k (k+vQ s k+12)=jj (s.extract (k+4) (k+4+vQ s k)))):ud s k=false:=by
 cases e:ud s k with
 | false=>rfl
 | true=>exact absurd (rU.1 e) h
theorem YX(s:Tw)(a:Int):vy s a<=s.size:=by
 unfold vy;by_cases h:bZ s a=true
 ·rw[qV h];have b:ud s a.toNat=true:=by simp[bZ]at h;exact h.2
  have:=rU.1 b;omega
 ·rw[qZ h];exact qI _
theorem tR{s:Tw}{k:Nat}(h:ud s k=true):k+12<=vy s (k:Nat)/\vy s (k:Nat)<=s.size:=by
 obtain⟨_,_,e⟩:=Xo h;have:=rU.1 h;rw[e];omega
def whL(s:Tw):Nat->Nat->List Int
 | 0,_=>[]
 | n+1,k=>if ud s k=true then(k:Int)::whL s n (vy s (k:Nat)) else []
def whE(s:Tw):Nat->Nat->Nat
 | 0,k=>k
 | n+1,k=>if ud s k=true then whE s n (vy s (k:Nat)) else k
def wlL(s:Tw)(a:Int):List Int:=if 0<=a/\a<=s.size then whL s (s.size+1) a.toNat else []
def wlE(s:Tw)(a:Int):Nat:=if 0<=a/\a<=s.size then whE s (s.size+1) a.toNat else 0
theorem YZ(s:Tw):∀(n m k:Nat),s.size<k+n->s.size<k+m->k<=s.size->whL s n k=whL s m k/\whE s n k=whE s m k
 | 0,m,k,h1,h2,hk=>by omega
 | n+1,0,k,h1,h2,hk=>by omega
 | n+1,m+1,k,h1,h2,hk=>by
   unfold whL whE;by_cases h:ud s k=true
   ·have hl:=tR h;obtain⟨a,b⟩:=YZ s n m (vy s (k:Nat)) (by omega) (by omega) (by omega);rw[qV h,qV h,qV h,qV h,a,b];exact⟨rfl,rfl⟩
   ·rw[qZ h,qZ h,qZ h,qZ h];exact⟨rfl,rfl⟩
theorem YJ{s:Tw}{k:Nat}(c:k<=s.size)(h:ud s k=true):
  whL s (s.size+1) k=(k:Int)::whL s (s.size+1) (vy s (k:Nat))/\whE s (s.size+1) k=whE s (s.size+1) (vy s (k:Nat)):=by
 have d:=tR h;obtain⟨a,b⟩:=YZ s s.size (s.size+1) (vy s (k:Nat)) (by omega) (by omega) (by omega);constructor
 ·rw[whL,qV h,a]
 ·rw[whE,qV h,b]
theorem YK{s:Tw}{k:Nat}(h:ud s k=false):whL s (s.size+1) k=[]/\whE s (s.size+1) k=k:=by
 constructor
 ·rw[whL,qZ (by rw[h];decide)]
 ·rw[whE,qZ (by rw[h];decide)]
def rG(w:World)(e:Ending)(w':World):Prop:=e=.returned (.tuple #[.string ByteArray.empty,.int .i64 0,.bool false])/\Below w.1.size w w'
theorem YV{a b:Tw}(h:a=b):(a.toList==b.toList)=true:=by rw[h,beq_iff_eq]
theorem ND{a b:Tw}(h:¬a=b):(a.toList != b.toList)=true:=by
 rw[bne_iff_ne];intro x;rw[Lib.toList_data,Lib.toList_data]at x;exact h (qi (Array.toList_inj.1 x))
def ln(s:Tw)(a:Int)(w:World)(e:Ending)(w':World):Prop:=e=.returned (.tuple #[.string (bT s a),.int .i64 (vy s a:Nat),.bool (bZ s a)])/\Below w.1.size w w'
theorem rW{s:Tw}{a:Int}{w w':World}{e:Ending}(h:bZ s a=false)(d:rG w e w'):ln s a w e w':=by
 obtain⟨b,c⟩:=YQ h;unfold ln;rw[b,c,h];exact d
end
end Go.Proofs.YthejglbnkmimjaaGreat

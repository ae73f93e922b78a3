import Derived.Test.YthejglbnkmimjaaGreatPp03
import Derived.Deep.DeepCutAuto
import Derived.Deep.RegionLaw
import Derived.Deep.CutBlock
set_option linter.unusedVariables false
set_option maxRecDepth 100000
set_option maxHeartbeats 9000000
namespace Go.Proofs.YthejglbnkmimjaaGreat
section
open Go.RowKit
theorem Ct(l:List zi)(n:Tw):vO l n<=l.length:=List.findIdx_le_length
theorem Ca{D:zr}{n:Tw}{a k:Int}(b:D.down=true):jx D n a k=(ByteArray.empty,61,D):=by
 unfold jx;rw[qK b]
def oO(D:zr):zr:={ D with count:=D.count+1 }
theorem Ce{D:zr}{n:Tw}{a k:Int}(b:D.down=false)(c:¬jW D.l n<D.l.length):jx D n a k=(ByteArray.empty,4,oO D):=by
 unfold jx;rw[qJ (by rw[b];decide)];simp only[Qb c];rfl
theorem Ci{D:zr}{n:Tw}{a k:Int}{f:zi}(c:D.down=false)(d:D.l[jW D.l n]? = some f)(b:a<0∨k<0∨(f.data.size:Int)<a∨(f.data.size:Int)-a<k):jx D n a k=(ByteArray.empty,2,oO D):=by
 unfold jx;rw[qJ (by rw[c];decide)];simp only[d];rw[qK b];rfl
theorem Co{D:zr}{n:Tw}{a k:Int}{f:zi}(c:D.down=false)(d:D.l[jW D.l n]? = some f)(b:¬(a<0∨k<0∨(f.data.size:Int)<a∨(f.data.size:Int)-a<k)):jx D n a k=(f.data.extract a.toNat (a.toNat+k.toNat),0,oO D):=by
 unfold jx;rw[qJ (by rw[c];decide)];simp only[d];rw[qJ b];rfl
theorem sy{P:Program}(x y:Int)(m:Nat)(h:(m:Int)=if y<x then y else x):∀a t w,(Builtin.min_ a t #[.int .i64 x,.int .i64 y]).run P w = .ok (.int .i64 (m:Nat)) w:=fun a t w=>by
 rw[run_min_int2,h]
theorem Cw{D:zr}{n:Tw}(a:D.down=false)(b:jW D.l n<D.l.length):jL D n=if vV D then(0, { ug D with l:=ku D.l (jW D.l n) }) else(61,vr D D.keep):=by
 unfold jL vw;rw[qJ (by rw[a];decide),qK b];rfl
theorem DQ{D:zr}{n:Tw}(a:D.down=false)(b:¬jW D.l n<D.l.length):jL D n=(4,D):=by
 unfold jL;rw[qJ (by rw[a];decide),qJ b]
theorem DX{D:zr}{n:Tw}(a:D.down=true):jL D n=(61,D):=by
 unfold jL;rw[qK a]
theorem DZ{D:zr}{n:Tw}(a:D.down=true):jB D n=(61,D):=by
 unfold jB;rw[qK a]
theorem DJ{D:zr}{n:Tw}(a:D.down=false)(b:ky n=false):jB D n=(2,D):=by
 unfold jB;rw[qJ (by rw[a];decide),b,qK (by decide)]
theorem DK{D:zr}{n:Tw}(a:D.down=false)(c:ky n=true)(b:jW D.l n<D.l.length):jB D n=(62,D):=by
 unfold jB;rw[qJ (by rw[a];decide),c,qJ (by decide),qK b]
theorem DV{D:zr}{n:Tw}(a:D.down=false)(d:ky n=true)(b:¬jW D.l n<D.l.length)(c:400<=D.l.length):jB D n=(60,D):=by
 unfold jB;rw[qJ (by rw[a];decide),d,qJ (by decide),qJ b,qK c]
theorem DY{D:zr}{n:Tw}(a:D.down=false)(d:ky n=true)(b:¬jW D.l n<D.l.length)(c:¬400<=D.l.length):
  jB D n=if vV D then(0, { ug D with l:=kH D.l ⟨n,ByteArray.empty,0⟩ }) else(61,vr D D.keep):=by
 unfold jB vw;rw[qJ (by rw[a];decide),d,qJ (by decide),qJ b,qJ c];rfl
theorem DU{D:zr}{n b:Tw}(a:D.down=true):vY D n b=(61,D):=by
 unfold vY;rw[qK a]
theorem DG{D:zr}{n c:Tw}(a:D.down=false)(b:¬jW D.l n<D.l.length):vY D n c=(4,D):=by
 unfold vY;rw[qJ (by rw[a];decide),qJ b]
theorem DW{D:zr}{n a:Tw}(b:D.down=false)(c:jW D.l n<D.l.length)(d:ky a=false):vY D n a=(2,D):=by
 unfold vY;rw[qJ (by rw[b];decide),qK c,d,qK (by decide)]
theorem DA{D:zr}{n a:Tw}(b:D.down=false)(c:jW D.l n<D.l.length)(d:ky a=true):
  vY D n a=if vV D then(0, { ug D with l:=if n=a then D.l else cw D.l (jW D.l n) a }) else(61,vr D D.keep):=by
 unfold vY vw;rw[qJ (by rw[b];decide),qK c,d,qJ (by decide)];rfl
def bV(m:List zi)(a:Tw):List zi:=if jW m a<m.length then ku m (jW m a) else m
theorem oP{l:List zi}{i:Nat}{f:zi}{a:Tw}(h:l[i]? = some f):cw l i a=kH (bV (ku l i) a) { f with name:=a }:=by
 unfold cw;rw[h];rfl
theorem oR{l:List zi}{i:Nat}(h:i<l.length):(ku l i).length+1=l.length:=by
 unfold ku;rw[qI,qq,List.length_drop];omega
theorem DB(m:List zi)(a:Tw):(bV m a).length<=m.length:=by
 unfold bV;split
 ·rename_i h;have:=oR h;omega
 ·exact qZ _
end
section
theorem lZ(x:zi)(l:List zi):jX (x::l)=x.data.size+jX l:=by unfold jX;simp
theorem oS(a b:List zi):jX (a++b)=jX a+jX b:=by unfold jX;rw[List.map_append,List.sum_append]
theorem Z9(l:List zi)(k:Nat):jX l=jX (l.take k)+jX (l.drop k):=by rw[<-oS,ql]
theorem oT(l:List zi)(f:zi):jX (kH l f)=jX l+f.data.size:=by
 unfold kH;have h:=Z9 l (vO l f.name);have a:jX [f]=f.data.size:=by rw[lZ];rfl
 rw[oS,oS,a];omega
theorem su(l:List zi)(f:zi):(kH l f).length=l.length+1:=by
 unfold kH;have:=Ct l f.name;rw[qI,qI,qq,List.length_drop];show min _ _+1+_=_;omega
theorem lJ{l:List zi}{f x:zi}(h:x∈kH l f):x∈l∨x=f:=by
 unfold kH at h;rw[qC,qC]at h;rcases h with(h|h)|h
 ·exact qX (List.mem_of_mem_take h)
 ·exact qY (by simpa using h)
 ·exact qX (List.mem_of_mem_drop h)
theorem mu{l:List zi}{i:Nat}{x:zi}(h:x∈ku l i):x∈l:=by
 unfold ku at h;rw[qC]at h;rcases h with h|h
 ·exact List.mem_of_mem_take h
 ·exact List.mem_of_mem_drop h
theorem o6{l:List zi}{i:Nat}{f:zi}(h:l[i]? = some f):jX (ku l i)+f.data.size=jX l:=by
 unfold ku;have b:=Z9 l i;have a:=(qM.1 h).1
 have c:l.drop i=f::l.drop (i+1):=by
  rw[List.drop_eq_getElem_cons a];congr 1;rw[qD a]at h;simpa using h
 rw[c,lZ]at b;rw[oS];omega
theorem Zq{l:List zi}{n:Tw}{x:zi}(h:x∈bV l n):x∈l:=by
 unfold bV at h;split at h
 ·exact mu h
 ·exact h
theorem DC(l:List zi)(n:Tw):jX (bV l n)<=jX l:=by
 unfold bV;split
 ·rename_i h;obtain⟨f,a⟩:=rY h;have:=o6 a;omega
 ·exact qZ _
theorem Zx(f:zi)(k:Int):(yO f k).data.size<=f.data.size/\(f.synced<=f.data.size->(yO f k).synced<=(yO f k).data.size):=by
 refine⟨?_,fun h=>by rw[UA h];exact qZ _⟩;show(f.data.extract 0 (ct f k)).size<=_;rw[qS];omega
theorem Zz: ∀(l m:List zi),l.length=m.length->(∀(i:Nat) x y,l[i]? = some x->m[i]? = some y->x.data.size<=y.data.size)->jX l<=jX m
 | [],[],_,_=>qZ _
 | x::l,y::m,h,hp=>by
   rw[lZ,lZ];have h1:=hp 0 x y rfl rfl;have f:=Zz l m (by simpa using h) (fun i a b c d=>hp (i+1) a b (by simpa using c) (by simpa using d));omega
 | [],_::_,h,_=>by simp at h
 | _::_,[],h,_=>by simp at h
theorem Zj(l:List zi)(keep:List Int)(j:Nat):(uo l keep)[j]? = (l[j]?).map (fun f=>yO f (keep.getD j 0)):=by unfold uo;simp
end
structure WfP(D:zr):Prop where
 synced:∀f∈D.l,f.synced<=f.data.size
 used:jX D.l<=D.cap
 cap:D.cap<=1048576
 many:D.l.length<=400
theorem WfP.ok{D:zr}(h:WfP D):vA D:=by
 have b:=h.used;have c:=h.cap;exact⟨fun f a=>⟨h.synced f a,by have:=rU a;omega⟩,h.many,by omega,h.cap⟩
theorem WfP.next{D:zr}(h:WfP D):WfP (ug D):=⟨h.synced,h.used,h.cap,h.many⟩
theorem WfP.sink{D:zr}(h:WfP D)(keep:List Int):WfP (vr D keep):=by
 have c:(uo D.l keep).length=D.l.length:=by unfold uo;simp
 refine⟨fun f g=>?_, ?_,h.cap,by show(uo D.l keep).length<=_;rw[c];exact h.many⟩
 ·obtain⟨j,a⟩:=List.getElem?_of_mem (show f∈uo D.l keep from g);rw[Zj]at a;cases b:D.l[j]? with
  | none=>rw[b]at a;cases a
  | some x =>
    rw[b]at a;obtain rfl:yO x (keep.getD j 0)=f:=(by simpa using a);exact(Zx x _).2 (h.synced x (qO b))
 ·refine qR (Zz _ _ c (fun i x y k m=>?_)) h.used;have d:(uo D.l keep)[i]? = some x:=k;rw[Zj,m]at d;obtain rfl:yO y (keep.getD i 0)=x:=by simpa using d
  exact(Zx y _).1
theorem WfP.setF{D:zr}(h:WfP D){k:Nat}{f:zi}(c:D.l[k]? = some f)(g:zi->zi)(i:(g f).synced<=(g f).data.size)(j:jX D.l+(g f).data.size<=D.cap+f.data.size):WfP { D with l:=ja D.l k g }:=by
 have m:=mU D.l k f g c;refine⟨fun x a=>?_,by show jX (Go.Proofs.YthejglbnkmimjaaGreat.ja D.l k g)<=D.cap;omega,h.cap,by show(Go.Proofs.YthejglbnkmimjaaGreat.ja D.l k g).length<=_;rw[Qu];exact h.many⟩;rcases Qc a with a|⟨d,b,rfl⟩
 ·exact h.synced x a
 ·rw[c]at b;obtain rfl:f=d:=by simpa using b
  exact i
theorem WfP.done{D E:zr}(h:WfP D)(a:WfP E):WfP (vw D E).2:=by
 unfold vw;split
 ·exact⟨a.synced,a.used,a.cap,a.many⟩
 ·exact h.sink _
theorem Zk{c:Nat}(a:c<=1048576):WfP (yf c):=⟨fun f b=>(by cases b),qH _,a,qH _⟩
section
variable {D:zr}(h:WfP D)
include h
theorem mg(n:Tw):WfP (jB D n).2:=by
 unfold jB;split
 ·exact h
 ·split
  ·exact h
  ·split
   ·exact h
   ·split
    ·exact h
    ·rename_i b;refine h.done ⟨fun f a=>?_, ?_,h.cap, ?_⟩
     ·rcases lJ a with a|rfl
      ·exact h.synced f a
      ·exact qH _
     ·show jX (kH _ _)<=_;rw[oT];exact h.used
     ·show(kH _ _).length<=_;rw[su];omega
theorem mc(n s:Tw):WfP (jF D n s).2:=by
 unfold jF;split
 ·exact h
 ·split
  ·rename_i c;split
   ·exact h
   ·rename_i d;obtain⟨f,b,_⟩:=dh c;have a:WfP (yB D n s):=h.setF b _ (by show f.synced<=(f.data++s).size;have:=h.synced f (qO b);rw[qT];omega) (by show jX D.l+(f.data++s).size<=_;rw[qT];omega);split
    ·exact a.next
    ·exact a.sink _
  ·exact h
theorem sg(n:Tw)(a k:Int):WfP (jx D n a k).2.2:=by
 have b:WfP { D with count:=D.count+1 }:=⟨h.synced,h.used,h.cap,h.many⟩
 unfold jx;split
 ·exact h
 ·dsimp only;split
  ·exact b
  ·split<;>exact b
theorem mf(n:Tw):WfP (j6 D n).2:=by
 unfold j6;split
 ·exact h
 ·split
  ·rename_i a;obtain⟨f,b,_⟩:=dh a;exact h.done (h.setF b _ (qZ _) (by have:=h.used;show jX D.l+f.data.size<=_;omega))
  ·exact h
theorem DD(n m:Tw):WfP (vY D n m).2:=by
 unfold vY;split
 ·exact h
 ·split
  ·rename_i c;split
   ·exact h
   ·obtain⟨f,a,_⟩:=dh c;refine h.done ?_;by_cases e:n=m
    ·rw[qK e];exact h
    ·rw[qJ e,oP a];have o:=o6 a;have d:=DC (ku D.l (jW D.l n)) m;have j:=oR c;have i:=DB (ku D.l (jW D.l n)) m;have g:=h.used;have k:=h.many;refine⟨fun x b=>?_, ?_,h.cap, ?_⟩
     ·rcases lJ b with b|rfl
      ·exact h.synced x (mu (Zq b))
      ·exact h.synced f (qO a)
     ·show jX (kH _ _)<=_;rw[oT];show _+f.data.size<=D.cap;omega
     ·show(kH _ _).length<=_;rw[su];omega
  ·exact h
theorem lK(n:Tw):WfP (jL D n).2:=by
 unfold jL;split
 ·exact h
 ·split
  ·rename_i a;obtain⟨f,b,_⟩:=dh a;have j:=o6 b;have g:=oR a;have d:=h.used;have i:=h.many;exact h.done ⟨fun x c=>h.synced x (mu c),by show jX (ku _ _)<=D.cap;omega,h.cap,by show(ku _ _).length<=_;omega⟩
  ·exact h
theorem DE(keep:List Int):WfP (gv D keep).2:=by
 unfold gv;split
 ·exact h
 ·exact h.sink _
end
section
def jU(l:List zi)(n:Tw):Option zi:=l.find? (fun f=>decide (f.name=n))
theorem dC: ∀(l:List zi) (n:Tw),l[jW l n]? = jU l n
 | [],n=>rfl
 | x::l,n=>by
   have ih:=dC l n;unfold jW jU at*;rw[List.findIdx_cons,List.find?_cons];cases h:decide (x.name=n)
   ·simpa using ih
   ·rfl
theorem mh{l:List zi}{n:Tw}:jW l n<l.length↔jU l n≠none:=by
 rw[<-dC];constructor
 ·intro h e;rw[qD h]at e;cases e
 ·intro h;rcases Nat.lt_or_ge (jW l n) l.length with c|c
  ·exact c
  ·exact absurd (List.getElem?_eq_none c) h
theorem DF{l:List zi}{n:Tw}{f:zi}(h:jU l n=some f):f.name=n:=by
 have:=List.find?_some h;simpa using this
theorem DH{l:List zi}{n:Tw}{f:zi}(h:jU l n=some f):f∈l:=List.mem_of_find?_eq_some h
theorem mn{l:List zi}{n:Tw}:jU l n=none↔∀f∈l,f.name≠n:=by
 unfold jU;rw[List.find?_eq_none];simp
theorem o7(h:zi->zi)(c:∀f,(h f).name=f.name)(n m:Tw):∀l:List zi,jU (ja l (jW l n) h) m=if m=n then(jU l n).map h else jU l m
 | []=>by
   unfold ja jU jW;simp
 | x::l=>by
   have ih:=o7 h c n m l;by_cases e:x.name=n
   ·have b:jW (x::l) n=0:=(by unfold jW;rw[List.findIdx_cons];simp[e]);rw[b];show jU (h x::l) m=_;unfold jU;rw[List.find?_cons,List.find?_cons,List.find?_cons,c,qW e];by_cases a:m=n
    ·rw[qK a,a,qW e];rfl
    ·rw[qJ a,qG (fun q=>a (by rw[<-e,q]))]
   ·have b:jW (x::l) n=jW l n+1:=(by unfold jW;rw[List.findIdx_cons];simp[e]);rw[b];show jU (x::ja l (jW l n) h) m=_;unfold jU at ih ⊢;rw[List.find?_cons,List.find?_cons,List.find?_cons,qG e];by_cases a:x.name=m
    ·rw[qW a];by_cases q:m=n
     ·exact absurd (a.trans q) e
     ·rw[qJ q]
    ·rw[qG a];exact ih
theorem DI{l:List zi}{f:zi}(c:jU l f.name=none)(m:Tw):jU (kH l f) m=if m=f.name then some f else jU l m:=by
 have b:=mn.1 c;unfold kH;have d:l=l.take (vO l f.name)++l.drop (vO l f.name):=(ql _ _).symm;generalize vO l f.name=k at*;unfold jU;rw[List.find?_append,List.find?_append];by_cases e:m=f.name
 ·subst e;rw[qK rfl,List.find?_eq_none.2 (fun x g=>by simpa using b x (List.mem_of_mem_take g))];simp
 ·rw[qJ e];have a:[f].find? (fun f=>decide (f.name=m))=none:=by simp[Ne.symm e]
  rw[a]
  conv=>rhs;rw[d,List.find?_append]
  simp
theorem o8(h:zi->zi)(hh:∀f,(h f).name=f.name):∀(l:List zi) (k:Nat),(ja l k h).map zi.name=l.map zi.name
 | [],k=>by unfold ja;simp
 | x::l,0=>by show(h x::l).map _=_;simp[hh]
 | x::l,k+1=>by
   show(x::ja l k h).map _=_;rw[List.map_cons,List.map_cons,o8 h hh l k]
theorem DL{l:List zi}{n:Tw}(h:zi->zi)(a:∀f,(h f).data.size=f.data.size):jX (ja l (jW l n) h)=jX l:=by
 rcases Nat.lt_or_ge (jW l n) l.length with c|c
 ·obtain⟨f,b⟩:=rY c;have:=mU l _ f h b;have:=a f;omega
 ·have e:ja l (jW l n) h=l:=by
   unfold ja;exact List.modify_eq_self c
  rw[e]
theorem fV{D:zr}{n:Tw}{f:zi}(a:D.down=false)(h:jU D.l n=some f):jQ D n=(f.data.size,0):=by
 unfold jQ;rw[dC,h,qJ (by simp[a])]
theorem mr{D:zr}{n:Tw}{f:zi}{a k:Nat}(b:D.down=false)(h:jU D.l n=some f)(c:a+k<=f.data.size):jx D n (a:Nat) (k:Nat)=(f.data.extract a (a+k),0, { D with count:=D.count+1 }):=by
 unfold jx;dsimp only;rw[dC,h,qJ (by simp[b])];dsimp only;rw[qJ (by omega),qh,qh]
theorem Zv{D:zr}{n:Tw}{f:zi}(a:D.down=false)(b:D.fails=0)(h:jU D.l n=some f):j6 D n=(0, { D with l:=ja D.l (jW D.l n) (fun f=>{ f with synced:=f.data.size }) }):=by
 unfold j6 vw vV;rw[qJ (by simp[a]),qK (mh.2 (by rw[h];simp)),b,qK (by decide)]
theorem Zy{D:zr}{n s:Tw}{f:zi}(b:D.down=false)(a:D.fails=0)(h:jU D.l n=some f)(c:jX D.l+s.size<=D.cap):jF D n s=(0,yB D n s):=by
 unfold jF vV;rw[qJ (by simp[b]),qK (mh.2 (by rw[h];simp)),qJ (by omega),a,qK (by decide)];unfold ug yB;simp[a]
theorem DM{D:zr}{n:Tw}(a:D.down=false)(b:D.fails=0)(c:ky n=true)(h:jU D.l n=none)(d:D.l.length<400):jB D n=(0, { D with l:=kH D.l ⟨n,ByteArray.empty,0⟩ }):=by
 unfold jB vw vV;rw[qJ (by simp[a]),qJ (by simp[c]),qJ (fun q=>mh.1 q h),qJ (by omega),b,qK (by decide)]
theorem Zu{D:zr}{n:Tw}(a:D.down=false)(h:jU D.l n=none):jL D n=(4,D):=by
 unfold jL;rw[qJ (by simp[a]),qJ (fun q=>mh.1 q h)]
def ud(D:zr)(n s:Tw):Nat × zr :=
 if (jB D n).1≠0 then jB D n
 else if (jF (jB D n).2 n s).1≠0 then jF (jB D n).2 n s
 else j6 (jF (jB D n).2 n s).2 n
def rdW(D:zr)(n:Tw):Tw × Nat × zr:=if (jQ D n).2=0 then jx D n 0 ((jQ D n).1:Nat) else(ByteArray.empty,(jQ D n).2,D)
theorem DN{D:zr}(h:WfP D)(n:Tw):WfP (rdW D n).2.2:=by
 unfold rdW;split
 ·exact sg h _ _ _
 ·exact h
theorem DO(D:zr)(n:Tw):(rdW D n).2.2.count<=D.count+1/\(rdW D n).2.2.cap=D.cap/\(rdW D n).2.2.l=D.l/\(rdW D n).2.2.down=D.down/\(rdW D n).2.2.fails=D.fails:=by
 unfold rdW jx;split
 ·split
  ·exact⟨Nat.le_succ _,rfl,rfl,rfl,rfl⟩
  ·dsimp only;split
   ·exact⟨qZ _,rfl,rfl,rfl,rfl⟩
   ·split<;>exact⟨qZ _,rfl,rfl,rfl,rfl⟩
 ·exact⟨Nat.le_succ _,rfl,rfl,rfl,rfl⟩
structure UpD(D:zr):Prop where
 down:D.down=false
 fails:D.fails=0
 wf:WfP D
theorem UpD.count{D:zr}(h:UpD D)(k:Nat):UpD { D with count:=k }:=⟨h.down,h.fails,⟨h.wf.synced,h.wf.used,h.wf.cap,h.wf.many⟩⟩
theorem sb{c:Nat}(a:c<=1048576):UpD (yf c):=⟨rfl,rfl,Zk a⟩
theorem dD{D:zr}{n:Tw}{f:zi}(b:D.down=false)(h:jU D.l n=some f):rdW D n=(f.data,0, { D with count:=D.count+1 }):=by
 unfold rdW;rw[fV b h,qK rfl];have:=mr (a:=0) (k:=f.data.size) b h (by omega);rw[Nat.zero_add]at this
 have e:f.data.extract 0 f.data.size=f.data:=by
  apply ByteArray.ext;rw[ByteArray.data_extract];exact Array.extract_size
 rw[e]at this;exact this
theorem fY{D:zr}{n:Tw}(a:D.down=false)(h:jU D.l n=none):rdW D n=(ByteArray.empty,4,D):=by
 have e:jQ D n=(0,4):=by
  unfold jQ;rw[qJ (by simp[a]),dC,h]
 unfold rdW;rw[e,qJ (by decide)]
theorem Zg{n m:Tw}(b:m≠n):∀l:List zi,jU (ku l (jW l n)) m=jU l m
 | []=>rfl
 | x::l=>by
   have ih:=Zg b l;by_cases e:x.name=n
   ·have a:jW (x::l) n=0:=(by unfold jW;rw[List.findIdx_cons];simp[e]);rw[a];show jU l m=_;unfold jU;rw[List.find?_cons,qG (fun q=>b (by rw[<-e,q]))]
   ·have a:jW (x::l) n=jW l n+1:=(by unfold jW;rw[List.findIdx_cons];simp[e]);rw[a];show jU (x::ku l (jW l n)) m=_;unfold jU at ih ⊢;rw[List.find?_cons,List.find?_cons,ih]
theorem Zb{D:zr}(h:UpD D){n:Tw}{f:zi}(a:jU D.l n=some f):∃E,jL D n=(0,E)/\UpD E/\E.count=D.count/\E.cap=D.cap/\E.l=ku D.l (jW D.l n)/\jX E.l+f.data.size=jX D.l/\E.l.length+1=D.l.length/\∀m,m≠n->jU E.l m=jU D.l m:=by
 have b:jW D.l n<D.l.length:=mh.2 (by rw[a];simp);have c:D.l[jW D.l n]? = some f:=by rw[dC];exact a
 have e:jL D n=(0, { D with l:=ku D.l (jW D.l n) }):=by
  unfold jL vw vV;rw[qJ (by simp[h.down]),qK b,h.fails,qK (by decide)]
 have w:=lK h.wf n;rw[e]at w;exact⟨_,e,⟨h.down,h.fails,w⟩,rfl,rfl,rfl,o6 c,by have:=oR b;show(ku _ _).length+1=_;omega,fun m d=>Zg d D.l⟩
end
section
open Go.RowKit
def DS(At:jK)(w0:World)(gd:Nat)(D:zr)(E:List Nat)(w:World):Prop :=
 ∃F,At w w0.heap.size gd F D/\Below w0.heap.size w0 w/\∀b∈E,b ∉ F/\b<w.heap.size
structure zt(E:List Nat)(w w':World):Prop where
 size:w.heap.size<=w'.heap.size
 block:∀b∈E,w'.heap[b]? = w.heap[b]?
def yJ(At:jK)(w0:World)(gd:Nat)(v:Value)(D':zr)(E:List Nat)(w:World)(e:Ending)(w':World):Prop:=e = .returned v/\DS At w0 gd D' E w'/\zt E w w'
abbrev jA(v:Value):List Nat:=v.ownBlock.toList
theorem jq{v:Value}{b:Nat}:b∈jA v↔v.ownBlock=some b:=by simp[jA]
section
variable {E E':List Nat}{w w' w'':World}
theorem zt.refl(E:List Nat)(w:World):zt E w w:=⟨qZ _,fun _ _=>rfl⟩
theorem zt.trans(h:zt E w w')(k:zt E w' w''):zt E w w'':=⟨qR h.size k.size,fun b a=>(k.block b a).trans (h.block b a)⟩
theorem zt.less(h:zt E w w')(a:∀b∈E',b∈E):zt E' w w':=⟨h.size,fun b c=>h.block b (a b c)⟩
theorem zt.drew(h:zt E w w'):zt E w w'.drew:=⟨h.size,h.block⟩
theorem zt.qp{g:Nat}{t:TypeId}{cs:Array Value}(h:zt E w w')(a:za w g t cs)(b:g∈E):za w' g t cs:=(h.block g b).trans a
theorem zt.xK{B:List Nat}(c:ze B w w')(a:∀b∈E,b<w.heap.size/\b ∉ B):zt E w w':=⟨c.size,fun b h=>c.block b (a b h).1 (a b h).2⟩
theorem zt.qm(a:Below w.heap.size w w')(c:∀b∈E,b<w.heap.size):zt E w w':=⟨a.size,fun b h=>a.block b (c b h)⟩
end
section
variable {At:jK}{w0 w w':World}{gd:Nat}{D D':zr}{E E':List Nat}
theorem DS.kept(h:DS At w0 gd D E w):Below w0.heap.size w0 w:=by obtain⟨F,b,a,c⟩:=h;exact a
theorem DS.lt(h:DS At w0 gd D E w):∀b∈E,b<w.heap.size:=by obtain⟨F,d,f,a⟩:=h;exact fun b c=>(a b c).2
theorem DS.less(h:DS At w0 gd D E w)(f:∀b∈E',b∈E):DS At w0 gd D E' w:=by
 obtain⟨F,a,c,d⟩:=h;exact⟨F,a,c,fun b g=>d b (f b g)⟩
theorem DS.qo(api:jY At)(h:DS At w0 gd D E w):D.l.Pairwise (fun f g=>kB f.name g.name=true):=by
 obtain⟨F,a,b,c⟩:=h;exact(api.qo a).1
theorem DS.x5(api:jY At)(h:DS At w0 gd D E w){B:List Nat}(c:ze B w w')(g:∀b∈B,b∈E/\w0.heap.size<=b):DS At w0 gd D E w':=by
 obtain⟨F,j,f,a⟩:=h;exact⟨F,api.qa j c (fun x d k=>(a x (g x k).1).1 d),f.trans (c.below f.size (fun x d=>(g x d).2)),fun b i=>⟨(a b i).1,qP (a b i).2 c.size⟩⟩
theorem DS.below(api:jY At)(h:DS At w0 gd D E w)(a:Below w.heap.size w w'):DS At w0 gd D E w':=by
 obtain⟨F,g,c,d⟩:=h;exact⟨F,api.qa g (ze.qm a) (fun _ _=>by simp),c.trans (a.mono c.size),fun b f=>⟨(d b f).1,qP (d b f).2 a.size⟩⟩
theorem DS.more(api:jY At)(h:DS At w0 gd D E w)(c:Below w.heap.size w w'){B:List Nat}(i:∀b∈B,w.heap.size<=b/\b<w'.heap.size):DS At w0 gd D (B++E) w':=by
 obtain⟨F,d,f,g⟩:=h;refine⟨F,api.qa d (ze.qm c) (fun _ _=>by simp),f.trans (c.mono f.size),fun b a=>?_⟩;rcases qC.1 a with a|a
 ·exact⟨fun j=>by have:=(api.low d b j).2;have:=(i b a).1;omega,(i b a).2⟩
 ·exact⟨(g b a).1,qP (g b a).2 c.size⟩
theorem DS.qi(api:jY At)(h:DS At w0 gd D E w){P:Program}{f:FuncId}{g:Array Value}{v:Value}(p:∀F,At w w0.heap.size gd F D->Calls P f g w (ks At w0.heap.size gd F w v D')):Calls P f g w (yJ At w0 gd v D' E w):=by
 obtain⟨F,i,j,c⟩:=h;refine(p F i).mono ?_;rintro e w'⟨l,m,n,o,d⟩;refine⟨m,⟨l,n,j.trans (d.below j.size (fun x r=>(api.low i x r).1)),fun b a=>⟨fun q=>?_,qP (c b a).2 d.size⟩⟩,d.size,fun b a=>d.block b (c b a).2 (c b a).1⟩;rcases o b q with k|k
 ·exact(c b a).1 k
 ·have:=(c b a).2;omega
theorem DS.at_(h:DS At w0 gd D E w):∃F,At w w0.heap.size gd F D:=by obtain⟨F,a,-⟩:=h;exact⟨F,a⟩
theorem DS.size(api:jY At)(h:DS At w0 gd D E w)(ok:WfP D)(n:Tw)(b:n.size<=maxLen):Calls Tryz.prog 129 #[ptr gd,.string n] w fun e w'=>e = .returned (.tuple #[.int .i64 ((jQ D n).1:Nat),err (jQ D n).2])/\w=w':=by
 obtain⟨F,a⟩:=h.at_;exact api.xo n a ok.ok b
end
theorem oq(D:zr)(n:Tw):(D.down=true/\jQ D n=(0,61))∨(D.down=false/\((jQ D n).2=0∨(jQ D n).2=4)):=by
 unfold jQ;cases D.down
 ·refine qY ⟨rfl, ?_⟩;rw[qJ (by decide)];split
  ·exact qY rfl
  ·exact qX rfl
 ·exact qX ⟨rfl,rfl⟩
theorem Zd{D:zr}(h:WfP D)(n:Tw):(jQ D n).1<=1048576:=by
 unfold jQ;split
 ·exact qH _
 ·split
  ·exact qH _
  ·rename_i f a;exact(h.ok.xY f (qO a)).2
theorem ox{D:zr}(h:WfP D)(n:Tw):(rdW D n).1.size<=D.cap:=by
 unfold rdW;split
 ·unfold jx;split
  ·exact qH _
  ·dsimp only;split
   ·exact qH _
   ·rename_i f a;split
    ·exact qH _
    ·have:=rU (qO a);have:=h.used;show(f.data.extract _ _).size<=_;rw[qS];omega
 ·exact qH _
end
section
def jG: Tw:=⟨#[109,97,112]⟩
def zw: Tw:=⟨#[110,101,119]⟩
theorem DP: jG≠zw:=by decide +kernel
noncomputable def vE (D:zr):Int:=if (rdW D jG).2.1≠0 then((rdW D jG).2.1:Nat) else mgE (rdW D jG).1
noncomputable def j5 (D:zr):jS:=if (rdW D jG).2.1≠0 then mI else mgM (rdW D jG).1
def gV(D:zr):zr:=(rdW D jG).2.2
def bu(D:zr)(m:jS):Nat × zr :=
 if ¬jr m then(2,D)
 else if D.down=true then(61,D)
 else if (jL D zw).1≠0/\(jL D zw).1≠4 then jL D zw
 else if ((jL D zw).2.cap:Int)-(jX (jL D zw).2.l:Nat)-((mfB m).size:Nat)<6000 then(60,(jL D zw).2)
 else if (ud (jL D zw).2 zw (mfB m)).1≠0 then ud (jL D zw).2 zw (mfB m)
 else vY (ud (jL D zw).2 zw (mfB m)).2 zw jG
theorem DR{D:zr}{m:jS}(a:¬jr m):bu D m=(2,D):=by unfold bu;rw[qK a]
def ya(a:List Int)(n:Tw):Bool:=decide (n=zw)||(kR n&&!decide (npK n=99)&&!decide ((npN n:Int)∈a))
def ye(l:List Tw)(m:jS):List Tw:=l.filter (ya m.lv.flatten)
def cI: zr->List Tw->Nat × zr
 | D,[]=>(0,D)
 | D,n::ns=>if (jL D n).1≠0 then jL D n else cI (jL D n).2 ns
def fU(D:zr)(m:jS):Nat × zr:=if D.down=true then(61,D) else cI D (ye (D.l.map zi.name) m)
abbrev kM(D:zr):List Tw:=D.l.map zi.name
theorem Zf(n:Tw):∀l:List zi,(l.map zi.name).Nodup->(ku l (jW l n)).map zi.name=(l.map zi.name).filter (fun x=>!decide (x=n))
 | [],_=>rfl
 | x::l,hd=>by
   obtain⟨b,c⟩:=List.nodup_cons.1 (show(x.name::l.map zi.name).Nodup from hd);have a:=Zf n l c;unfold ku jW at a ⊢;rw[List.findIdx_cons,List.map_cons];by_cases e:x.name=n
   ·rw[qW e,List.filter_cons_of_neg (by simp[e])];show l.map zi.name=_;refine(List.filter_eq_self.2 fun y d=>?_).symm;have:y≠n:=fun h=>b (e.trans h.symm ▸ d)
    simpa using this
   ·rw[qG e,List.filter_cons_of_pos (by simp[e])];simp only[cond_false,List.take_succ_cons,List.drop_succ_cons,List.cons_append,List.map_cons];rw[a]
theorem DT{l:List zi}{n:Tw}(h:n∈l.map zi.name):∃f,jU l n=some f:=by
 obtain⟨f,a,rfl⟩:=qN.1 h;cases e:jU l f.name with
 | some g=>exact⟨g,rfl⟩
 | none =>
   unfold jU at e;have:=List.find?_eq_none.1 e f a;simp at this
end
section
open Go.RowKit
theorem D7{l:List Tw}{m:jS}{j:Nat}{x:Tw}(h:l[j]? = some x):ye (l.take (j+1)) m=ye (l.take j) m++(if ya m.lv.flatten x=true then [x] else []):=by
 unfold ye;rw[List.take_add_one,h,List.filter_append];congr 1;show [x].filter _=_;by_cases a:ya m.lv.flatten x=true
 ·rw[qK a,List.filter_cons_of_pos a,List.filter_nil]
 ·rw[qJ a,List.filter_cons_of_neg a,List.filter_nil]
theorem Zh(l:List Tw)(m:jS):(ye l m).length<=l.length:=List.length_filter_le _ _
theorem D8{n:Tw}(h:ky n=true):n.size<=maxLen:=by
 unfold ky at h;simp only[Bool.and_eq_true,decide_eq_true_eq]at h;exact qR h.2 (by decide)
theorem DS.names{At:jK}{w0 w:World}{gd:Nat}{D:zr}{E:List Nat}(api:jY At)(h:DS At w0 gd D E w):∀x∈D.l.map zi.name,x.size<=maxLen:=by
 obtain⟨F,a,d,g⟩:=h;intro x c;obtain⟨f,b,rfl⟩:=qN.1 c;exact D8 ((api.qo a).2 f b)
end
end Go.Proofs.YthejglbnkmimjaaGreat

import Derived.Test.YthejglbnkmimjaaGreatPp00
import Derived.WalkKit
import Derived.Laws.FloatArith
set_option linter.unusedVariables false
set_option maxRecDepth 100000
set_option maxHeartbeats 9000000
namespace Go.Proofs.YthejglbnkmimjaaGreat
section
structure jO where
 name:Tw
 data:Tw
 synced:Nat
structure jL where
 cap:Nat
 l:List jO
 count:Nat
 down:Bool
 xB:Nat
 fails:Nat
 keep:List Int
def vY(n:Tw):Bool:=decide (0<n.size)&&decide (n.size<=12)
def jx(l:List jO)(n:Tw):Nat:=l.findIdx (fun f=>decide (f.name=n))
def j4(l:List jO):Nat:=(l.map (fun f=>f.data.size)).sum
def vT(a b:Tw):Bool:=Op.bytesLess a.toList b.toList
def yD(l:List jO)(n:Tw):Nat:=l.findIdx (fun f=>!vT f.name n)
def kO(l:List jO)(f:jO):List jO:=l.take (yD l f.name)++[f]++l.drop (yD l f.name)
def kr(l:List jO)(i:Nat):List jO:=l.take i++l.drop (i+1)
def lq(f:jO)(k:Int):Nat:=f.synced+min k.toNat (f.data.size-f.synced)
def gX(f:jO)(k:Int):jO:=⟨f.name,f.data.extract 0 (lq f k),lq f k⟩
def bO(l:List jO)(keep:List Int)(n:Nat):List jO:=l.mapIdx (fun i f=>if i<n then gX f (keep.getD i 0) else f)
def bP(l:List jO)(keep:List Int):List jO:=l.mapIdx (fun i f=>gX f (keep.getD i 0))
def uc(D:jL)(keep:List Int):jL:={ D with l:=bP D.l keep,down:=true,fails:=0,keep:=[] }
def yG(D:jL):Bool:=!decide (D.fails=1)
def cZ(D:jL):jL:={ D with fails:=D.fails-1 }
def y9(D:jL)(E:jL):Nat × jL:=if yG D then(0, { E with fails:=D.fails-1 }) else(61,uc D D.keep)
def qYb(D:jL)(keep:List Int):Nat × jL:=if D.down then(61,D) else(0,uc D keep)
def jk(D:jL)(n:Tw):Nat × jL :=
 if D.down then(61,D) else if !vY n then(2,D) else if jx D.l n<D.l.length then(62,D) else if 400<=D.l.length then(60,D)
 else y9 D { D with l:=kO D.l ⟨n,ByteArray.empty,0⟩ }
def kq(l:List jO)(i:Nat)(h:jO->jO):List jO:=l.modify i h
def uO(D:jL)(n s:Tw):jL:={ D with l:=kq D.l (jx D.l n) (fun f=>{ f with data:=f.data++s }) }
def jr(D:jL)(n s:Tw):Nat × jL :=
 if D.down then(61,D) else if jx D.l n<D.l.length then(if D.cap<j4 D.l+s.size then(60,D)
  else if yG D then(0,cZ (uO D n s)) else(61,uc (uO D n s) D.keep)) else(4,D)
def kM(D:jL)(n:Tw)(a k:Int):Tw × Nat × jL :=
 if D.down then(ByteArray.empty,61,D) else
  let E:={ D with count:=D.count+1 }
  match D.l[jx D.l n]? with
  | none=>(ByteArray.empty,4,E)
  | some f=>if a<0∨k<0∨(f.data.size:Int)<a∨(f.data.size:Int)-a<k then(ByteArray.empty,2,E) else(f.data.extract a.toNat (a.toNat+k.toNat),0,E)
def kJ(D:jL)(n:Tw):Nat × jL :=
 if D.down then(61,D) else if jx D.l n<D.l.length then y9 D { D with l:=kq D.l (jx D.l n) (fun f=>{ f with synced:=f.data.size }) } else(4,D)
def fp(l:List jO)(i:Nat)(to:Tw):List jO :=
 match l[i]? with
 | none=>l
 | some f=>kO (let m:=kr l i;if jx m to<m.length then kr m (jx m to) else m) { f with name:=to }
def vj(D:jL)(n to:Tw):Nat × jL :=
 if D.down then(61,D) else if jx D.l n<D.l.length then(if !vY to then(2,D) else y9 D { D with l:=if n=to then D.l else fp D.l (jx D.l n) to }) else(4,D)
def jh(D:jL)(n:Tw):Nat × jL :=
 if D.down then(61,D) else if jx D.l n<D.l.length then y9 D { D with l:=kr D.l (jx D.l n) } else(4,D)
def j9(D:jL)(n:Tw):Nat × Nat :=
 if D.down then(0,61) else match D.l[jx D.l n]? with
  | none=>(0,4)
  | some f=>(f.data.size,0)
def be: Nat->Nat->List UInt8
 | 0,_=>[]
 | k+1,n=>UInt8.ofNat (n/256 ^ k)::be k n
def un(l:List UInt8):Nat:=l.foldl (fun a c=>a*256+c.toNat) 0
theorem je: ∀k n:Nat,(be k n).length=k
 | 0,_=>rfl
 | k+1,n=>by simp[be,je k n]
theorem Fs: un []=0:=rfl
theorem Fa(l:List UInt8)(c:UInt8):un (l++[c])=un l*256+c.toNat:=by simp[un]
theorem XI: ∀(l:List UInt8) (a:Nat),l.foldl (fun a c=>a*256+c.toNat) a=a*256 ^ l.length+un l
 | [],a=>by simp[un]
 | c::l,a=>by
   have h1:=XI l (a*256+c.toNat);have b:=XI l (0*256+c.toNat);simp only[un,List.foldl_cons,List.length_cons]at*;rw[h1,b,Nat.pow_succ];simp only[Nat.add_mul,Nat.zero_mul,Nat.zero_add];rw[Nat.mul_assoc,Nat.mul_comm 256];omega
theorem XL(c:UInt8)(l:List UInt8):un (c::l)=c.toNat*256 ^ l.length+un l:=by
 have h:=XI l (0*256+c.toNat);simp only[un,List.foldl_cons]at*;rw[h];simp
theorem fe: ∀l:List UInt8,un l<256 ^ l.length
 | []=>by decide
 | c::l=>by
   have h:=fe l;have a:=c.toNat_lt;rw[XL,qu,Nat.pow_succ];have:c.toNat*256 ^ l.length<=255*256 ^ l.length:=Nat.mul_le_mul_right _ (by omega);omega
theorem dH: ∀k n:Nat,un (be k n)=n%256 ^ k
 | 0,n=>by rw[be,Fs,Nat.pow_zero,Nat.mod_one]
 | k+1,n=>by
   have e:(256:Nat) ^ (k+1)=256 ^ k*256:=Nat.pow_succ ..;rw[be,XL,je,dH k n,UInt8.toNat_ofNat',e,Nat.mod_mul,Nat.mul_comm,Nat.add_comm]
theorem mg: ∀l:List UInt8,be l.length (un l)=l:=by
 intro l
 suffices h:∀(l:List UInt8) (m:Nat),be l.length (m*256 ^ l.length+un l)=l by
  have:=h l 0;simpa using this
 intro l
 induction l with
 | nil=>intro m;rfl
 | cons c l f =>
   intro m;have b:=fe l;have d:0<256 ^ l.length:=Nat.pow_pos (by decide);rw[qu,be,XL]
   have e:m*256 ^ (l.length+1)+(c.toNat*256 ^ l.length+un l)=(m*256+c.toNat)*256 ^ l.length+un l:=by
    rw[Nat.pow_succ,Nat.add_mul,Nat.mul_assoc m 256,Nat.mul_comm 256];omega
   rw[e,f]
   have a:((m*256+c.toNat)*256 ^ l.length+un l)/256 ^ l.length=m*256+c.toNat:=by
    rw[Nat.mul_comm,Nat.mul_add_div d,Nat.div_eq_of_lt b,Nat.add_zero]
   rw[a];have g:=c.toNat_lt;congr 1;apply UInt8.toNat_inj.1;rw[UInt8.toNat_ofNat'];omega
def bs(l:List UInt8):Tw:=⟨l.toArray⟩
theorem cr(s:Tw):bs s.data.toList=s:=by cases s;simp[bs]
theorem kP(l:List UInt8):(bs l).size=l.length:=by simp[bs,ByteArray.size]
theorem cF(a b:List UInt8):bs a++bs b=bs (a++b):=by
 apply qi;simp[bs]
def jz(s:Tw):Nat:=un (s.data.toList.take 8)
theorem p9(s:Tw):jz s<18446744073709551616:=by
 have h:=fe (s.data.toList.take 8);have a:(s.data.toList.take 8).length<=8:=by rw[qT];omega
 have b:256 ^ (s.data.toList.take 8).length<=256 ^ 8:=Nat.pow_le_pow_right (by decide) a;unfold jz;have:(256:Nat) ^ 8=18446744073709551616:=by decide
 omega
theorem XM(s:Tw)(k:Nat)(h:k<s.size):s.data.toList.take (k+1)=s.data.toList.take k++[s[k]]:=by
 rw[List.take_succ_eq_append_getElem (by simpa using h)];rfl
def stp(x:Nat):Nat:=(x/2)^^^(x%2*3988292384)
def stk: Nat->Nat->Nat
 | 0,x=>x
 | k+1,x=>stk k (stp x)
def pq(x c:Nat):Nat:=stk 8 (x^^^c)
def ga(x:Nat)(l:List UInt8):Nat:=l.foldl (fun a c=>pq a c.toNat) x
theorem XN{a b:Nat}(c:a<4294967296)(d:b<4294967296):a^^^b<4294967296:=Nat.xor_lt_two_pow (n:=32) c d
theorem Fe{x:Nat}(h:x<4294967296):stp x<4294967296:=by
 unfold stp;refine XN (by omega) ?_;have:x%2<2:=Nat.mod_lt _ (by decide);rcases qd (x%2) 1 with a|a
 ·have:x%2=0:=by omega
  rw[this];decide
 ·have:x%2=1:=by omega
  rw[this];decide
theorem XO: ∀(k:Nat) {x:Nat},x<4294967296->stk k x<4294967296
 | 0,_,h=>h
 | k+1,_,h=>XO k (Fe h)
theorem Kp: ∀(i j x:Nat),stk (i+j) x=stk j (stk i x)
 | 0,j,x=>by rw[qe];rfl
 | i+1,j,x=>by rw[Nat.succ_add,stk,Kp i j,stk]
theorem Fi(k x:Nat):stk (k+1) x=stp (stk k x):=Kp k 1 x
theorem Fo(x:Nat):ga x []=x:=rfl
theorem Hq(x:Nat)(c:UInt8)(l:List UInt8):ga x (c::l)=ga (pq x c.toNat) l:=rfl
theorem Hx(x:Nat)(l m:List UInt8):ga x (l++m)=ga (ga x l) m:=by unfold ga;rw[List.foldl_append]
theorem Hz(x:Nat)(l:List UInt8)(c:UInt8):ga x (l++[c])=pq (ga x l) c.toNat:=Hx x l [c]
theorem Hj{x c:Nat}(a:x<4294967296)(b:c<256):pq x c<4294967296:=XO 8 (XN a (by omega))
theorem Kr: ∀(l:List UInt8) {x:Nat},x<4294967296->ga x l<4294967296
 | [],_,h=>h
 | c::l,_,h=>by rw[Hq];exact Kr l (Hj h c.toNat_lt)
theorem Hk{x:Nat}(h:x<4294967296):4294967295-x=4294967295^^^x:=by
 have a:=congrArg BitVec.toNat (BitVec.allOnes_xor (x:=BitVec.ofNat 32 x));rw[BitVec.toNat_xor,BitVec.toNat_not,BitVec.toNat_allOnes,BitVec.toNat_ofNat]at a;have b:x%2 ^ 32=x:=Nat.mod_eq_of_lt h;rw[b]at a;have c:(2:Nat) ^ 32-1=4294967295:=by decide
 rw[c]at a;exact a.symm
def pz(a:Nat)(l:List UInt8):Nat:=4294967295-ga (4294967295-a) l
def tQ(l:List UInt8):Nat:=pz 0 l
theorem Hv(a:Nat)(l:List UInt8):pz a l<4294967296:=by unfold pz;omega
theorem Hy(l:List UInt8):tQ l<4294967296:=Hv 0 l
def yi(l:List UInt8):List UInt8:=(be 4 (tQ l)).reverse
theorem pj(l:List UInt8):(yi l).length=4:=by unfold yi;rw[List.length_reverse,je]
def hst(x c:Nat):Nat:=(x^^^c)*1099511628211%18446744073709551616
def gZ(x:Nat)(l:List UInt8):Nat:=l.foldl (fun a c=>hst a c.toNat) x
def mc(x:Nat):Nat:=(x^^^x/4294967296)*11400714819323198485%18446744073709551616
def pk(x:Nat):Nat:=mc x^^^mc x/536870912
def py: Nat:=14695981039346656037
def kx(seed:Nat)(l:List UInt8):Nat:=if seed=0 then 7 else pk (gZ (py^^^seed) l)
def cH(h:Nat):Nat:=h/131072+h%131072*140737488355328
def dI(h:Nat):Nat:=cH h+1-cH h%2
theorem xlt{a b:Nat}(c:a<18446744073709551616)(d:b<18446744073709551616):a^^^b<18446744073709551616:=Nat.xor_lt_two_pow (n:=64) c d
theorem Hu(x c:Nat):hst x c<18446744073709551616:=Nat.mod_lt _ (by decide)
theorem Hb{c:Nat}(a:c<256):c<18446744073709551616:=by omega
theorem Hf(x c:Nat):hst x c=(x^^^c)*1099511628211%18446744073709551616:=rfl
theorem XP(x:Nat):gZ x []=x:=by unfold gZ;rw[List.foldl_nil]
theorem Ks(x:Nat)(c:UInt8)(l:List UInt8):gZ x (c::l)=gZ (hst x c.toNat) l:=by unfold gZ;rw[List.foldl_cons]
theorem Hh(x:Nat)(l m:List UInt8):gZ x (l++m)=gZ (gZ x l) m:=by unfold gZ;rw[List.foldl_append]
theorem Hl(x:Nat)(l:List UInt8)(c:UInt8):gZ x (l++[c])=hst (gZ x l) c.toNat:=by rw[Hh,Ks,XP]
theorem Hn(l:List UInt8):∀ {x:Nat},x<18446744073709551616->gZ x l<18446744073709551616:=by
 induction l with
 | nil=>intro x h;rw[XP];exact h
 | cons c l a=>intro x h;rw[Ks];exact a (Hu x c.toNat)
theorem Kt(x:Nat):mc x<18446744073709551616:=Nat.mod_lt _ (by decide)
theorem Hp(x:Nat):pk x<18446744073709551616:=by
 have h:=Kt x;exact xlt h (Nat.lt_of_le_of_lt (Nat.div_le_self _ _) h)
theorem Hr: py<18446744073709551616:=by decide
theorem XR(seed:Nat)(l:List UInt8):kx seed l<18446744073709551616:=by
 unfold kx;split
 ·decide
 ·exact Hp _
theorem XS{h:Nat}(a:h<18446744073709551616):cH h<18446744073709551616:=by unfold cH;omega
theorem Hs{h:Nat}(a:h<18446744073709551616):dI h<18446744073709551616:=by
 have:=XS a;unfold dI;omega
theorem Ha(h:Nat):cH h|||1=dI h:=by
 unfold dI;generalize cH h=r
 have e:r|||1=2*(r/2)+1:=by
  have b:(r|||1)/2=r/2:=by
   have:(r|||1)/2 ^ 1=r/2 ^ 1|||1/2 ^ 1:=Nat.or_div_two_pow
   simpa using this
  have c:(r|||1)%2=1:=by
   have:(r|||1)%2 ^ 1=r%2 ^ 1|||1%2 ^ 1:=Nat.or_mod_two_pow
   have a:r%2=0∨r%2=1:=(by omega);rcases a with a|a<;>simp[a]
  omega
 omega
def prb(h:Nat)(i a:Int):Nat:=if a<1∨i<0 then 0 else(h+i.toNat*dI h)%18446744073709551616%a.toNat
def nps(p:Int):Nat:=(min p 64).toNat
def gJ(h:Nat)(p a:Int):List Nat:=(List.range (nps p)).map fun i=>prb h (i:Nat) a
theorem Ka(h:Nat)(i:Int){a:Int}(b:1<=a):prb h i a<a.toNat:=by
 unfold prb;split
 ·omega
 ·exact Nat.mod_lt _ (by omega)
theorem He(p:Int):nps p<=64:=by unfold nps;omega
theorem tX{h k:Nat}{p a:Int}:k∈gJ h p a↔∃i:Nat,i<nps p/\prb h (i:Nat) a=k:=by unfold gJ;simp
theorem Hi{h k:Nat}{p a:Int}(b:1<=a)(c:k∈gJ h p a):k<a.toNat:=by
 obtain⟨i,_,rfl⟩:=tX.1 c;exact Ka h _ b
def pc(h:Nat)(a:Int)(i:Nat):List Nat:=(List.range i).map fun i=>prb h (i:Nat) a
theorem Ho(h:Nat)(a:Int)(i:Nat):pc h a (i+1)=pc h a i++[prb h (i:Nat) a]:=by unfold pc;rw[List.range_succ,List.map_append];rfl
theorem Hw(h:Nat)(p a:Int):pc h a (nps p)=gJ h p a:=rfl
def by8(a b c d f g i j:Bool):Nat:=(((((((j.toNat*2+i.toNat)*2+g.toNat)*2+f.toNat)*2+d.toNat)*2+c.toNat)*2+b.toNat)*2+a.toNat)
theorem LQ(a b c d f g i j:Bool):by8 a b c d f g i j<256:=by
 revert a b c d f g i j;decide +kernel
theorem LX(a b c d f g i j:Bool):(by8 a b c d f g i j).testBit 0=a/\(by8 a b c d f g i j).testBit 1=b/\(by8 a b c d f g i j).testBit 2=c/\(by8 a b c d f g i j).testBit 3=d /\
  (by8 a b c d f g i j).testBit 4=f/\(by8 a b c d f g i j).testBit 5=g/\(by8 a b c d f g i j).testBit 6=i/\(by8 a b c d f g i j).testBit 7=j:=by
 revert a b c d f g i j;decide +kernel
def on(D:List Nat)(k:Nat):Bool:=decide (k∈D)
def XT(D:List Nat)(i:Nat):Nat->Nat
 | 0=>0
 | j+1=>XT D i j*2+(on D (8*i+(7-j))).toNat
def byL(D:List Nat)(i:Nat):Nat:=XT D i 8
theorem Ke(D:List Nat)(i:Nat):byL D i=by8 (on D (8*i+0)) (on D (8*i+1)) (on D (8*i+2)) (on D (8*i+3)) (on D (8*i+4)) (on D (8*i+5)) (on D (8*i+6)) (on D (8*i+7)):=by
 simp only[byL,XT,by8];simp
theorem mf(D:List Nat)(i:Nat):byL D i<256:=by rw[Ke];exact LQ _ _ _ _ _ _ _ _
theorem pd(D:List Nat)(i k:Nat)(m:k<8):(byL D i).testBit k=on D (8*i+k):=by
 rw[Ke];obtain⟨a,b,c,d,f,g,j,l⟩:=LX (on D (8*i+0)) (on D (8*i+1)) (on D (8*i+2)) (on D (8*i+3)) (on D (8*i+4)) (on D (8*i+5)) (on D (8*i+6)) (on D (8*i+7))
 match k,m with
 | 0,_=>exact a
 | 1,_=>exact b
 | 2,_=>exact c
 | 3,_=>exact d
 | 4,_=>exact f
 | 5,_=>exact g
 | 6,_=>exact j
 | 7,_=>exact l
theorem Ki{a k:Nat}(b:a<256)(c:8<=k):a.testBit k=false:=Nat.testBit_lt_two_pow (qS b (show 2 ^ 8<=2 ^ k from Nat.pow_le_pow_right (by decide) c))
theorem X6{a b:Nat}(c:a<256)(d:b<256)(h:∀k,k<8->a.testBit k=b.testBit k):a=b:=by
 apply Nat.eq_of_testBit_eq;intro k;by_cases f:k<8
 ·exact h k f
 ·rw[Ki c (by omega),Ki d (by omega)]
theorem Xq{k:Nat}(a:k<8):2 ^ k<256:=Nat.pow_lt_pow_right (by decide) a (m:=k) (n:=8)
theorem LZ{a b:Nat}(c:a<256)(d:b<256):a|||b<256:=Nat.or_lt_two_pow (n:=8) c d
theorem Ko(D E:List Nat)(k:Nat):on (D++E) k=(on D k||on E k):=by unfold on;rw[<-Bool.decide_or];exact decide_eq_decide.2 (by simp)
theorem Kw(x k:Nat):on [x] k=decide (k=x):=by unfold on;exact decide_eq_decide.2 (by simp)
theorem LJ(D:List Nat)(x:Nat):byL (D++[x]) (x/8)=byL D (x/8)|||2 ^ (x%8):=by
 have b:x%8<8:=Nat.mod_lt _ (by decide);refine X6 (mf _ _) (LZ (mf _ _) (Xq b)) fun k a=>?_
 rw[pd _ _ _ a,Nat.testBit_or,pd _ _ _ a,Nat.testBit_two_pow,Ko,Kw];congr 1;exact decide_eq_decide.2 (by omega)
theorem LK(D:List Nat)(x i:Nat)(h:i≠x/8):byL (D++[x]) i=byL D i:=by
 refine X6 (mf _ _) (mf _ _) fun k a=>?_
 rw[pd _ _ _ a,pd _ _ _ a,Ko,Kw,qA (by omega),Bool.or_false]
theorem LV(i:Nat):byL [] i=0:=by
 refine X6 (mf _ _) (by decide) fun k a=>?_
 rw[pd _ _ _ a,Nat.zero_testBit];rfl
def lx(D:List Nat)(n:Nat):List UInt8:=(List.range n).map fun i=>UInt8.ofNat (byL D i)
theorem VQ(D:List Nat)(n:Nat):(lx D n).length=n:=by unfold lx;rw[qq,List.length_range]
theorem LY(D:List Nat){n i:Nat}(hi:i<n):((lx D n).getD i 0).toNat=byL D i:=by
 unfold lx;rw[qj,qv,List.getElem?_range hi];have:=mf D i;simp[UInt8.toNat_ofNat'];omega
def fK(l:List Nat)(p a:Int):List Nat:=l.flatMap fun h=>gJ h p a
theorem LU(p a:Int):fK [] p a=[]:=rfl
theorem LG(l:List Nat)(h:Nat)(p a:Int):fK (l++[h]) p a=fK l p a++gJ h p a:=by unfold fK;simp
def lz(a:Int):Bool:=decide (1<=a/\a<=1000000/\a%8=0)
def dL(l:List Nat)(p a:Int):List UInt8:=if lz a then lx (fK l p a) (a.toNat/8) else []
theorem LW{l:List Nat}{p a:Int}(h:lz a=false):dL l p a=[]:=by unfold dL;rw[h];rfl
theorem VX{l:List Nat}{p a:Int}(h:lz a=true):dL l p a=lx (fK l p a) (a.toNat/8):=by unfold dL;rw[h];rfl
theorem LA{c k:Nat}:(c/2 ^ k%2=1)↔c.testBit k=true:=by
 rw[Nat.testBit_eq_decide_div_mod_eq,decide_eq_true_iff]
def sr(b:Nat):Int:=if b<9223372036854775808 then(b:Int) else 9223372036854775808-(b:Int)
def vC(b:Nat):Bool:=decide (9218868437227405312<b%9223372036854775808)
def bR(b:Nat):Nat:=if b<9223372036854775808 then b+9223372036854775808 else 18446744073709551615-b
def VZ(k:Nat):Nat:=if k<9223372036854775808 then 18446744073709551615-k else k-9223372036854775808
def val(r:Nat):Nat:=if r<4503599627370496 then r else(4503599627370496+r%4503599627370496)*2 ^ (r/4503599627370496-1)
theorem VJ{b:Nat}(h:b<18446744073709551616):VZ (bR b)=b:=by unfold bR VZ;split<;>split<;>omega
theorem LB{a b:Nat}(c:a<18446744073709551616)(d:b<18446744073709551616)(h:bR a=bR b):a=b:=by rw[<-VJ c,h,VJ d]
theorem LC(r:Nat):val r<val (r+1):=by
 unfold val;by_cases h:r+1<4503599627370496
 ·rw[qV (by omega),qV h];omega
 ·rw[qZ h];by_cases c:r<4503599627370496
  ·obtain rfl:r=4503599627370495:=(by omega);decide
  ·rw[qZ c];by_cases d:r%4503599627370496=4503599627370495
   ·have a:(r+1)/4503599627370496-1=(r/4503599627370496-1)+1:=(by omega);have b:(r+1)%4503599627370496=0:=(by omega);rw[a,b,d,Nat.pow_succ];have:=Nat.two_pow_pos (r/4503599627370496-1);generalize 2 ^ (r/4503599627370496-1)=p at*;omega
   ·have a:(r+1)/4503599627370496=r/4503599627370496:=(by omega);have b:(r+1)%4503599627370496=r%4503599627370496+1:=(by omega);rw[a,b];exact Nat.mul_lt_mul_of_pos_right (by omega) (Nat.two_pow_pos _)
theorem VK{a b:Nat}(h:a<b):val a<val b:=by
 induction b with
 | zero=>omega
 | succ b c =>
   have:=LC b;by_cases e:a=b
   ·subst e;exact this
   ·exact Nat.lt_trans (c (by omega)) this
theorem LD{a b:Nat}(h:a<=b):val a<=val b:=by
 rcases qd a b with c|c
 ·exact Nat.le_of_lt (VK c)
 ·obtain rfl:a=b:=by omega
  exact qK _
theorem Xx{a b:Nat}:val a<val b↔a<b:=by
 refine⟨fun h=>?_,VK⟩;rcases qd a b with c|c
 ·exact c
 ·have:=LD c;omega
theorem LF: val 0=0:=rfl
theorem VV(r:Nat):0<val r↔0<r:=by
 have h:=Xx (a:=0) (b:=r);rw[LF]at h;exact h
theorem LH: Ieee.double.binade=4503599627370496:=by decide
theorem LI: Ieee.double.infRung=9218868437227405312:=by decide
theorem LL: Ieee.double.signWeight=9223372036854775808:=by decide
theorem LM: Ieee.double.leastPlace = -1074:=by decide
inductive tZ (b:Nat):Ieee.Datum->Prop where
 | num (m:Nat) (i:Int) (neg:Bool) (h1:-1074<=i) (h2:m*2 ^ (i+1074).toNat=val (b%9223372036854775808)) (h3:b%9223372036854775808<9218868437227405312) (h4:neg=decide (9223372036854775808<=b)):tZ b (.number neg m i)
 | inf (neg:Bool) (h3:b%9223372036854775808=9218868437227405312) (h4:neg=decide (9223372036854775808<=b)):tZ b (.infinity neg)
 | nan (neg:Bool) (f:Nat) (h3:9218868437227405312<b%9223372036854775808):tZ b (.nan neg f)
theorem VY(b:Nat)(g:b<18446744073709551616):tZ b (Ieee.double.read b):=by
 have f:(b/9223372036854775808%2==1)=decide (9223372036854775808<=b):=by
  by_cases h:9223372036854775808<=b
  ·rw[qB h];exact beq_iff_eq.2 (by omega)
  ·rw[qA h];exact qg.2 (by omega)
 unfold Ieee.Format.read;simp only[LH,LI,LL,LM];by_cases a:b%9223372036854775808<4503599627370496
 ·rw[qV a];refine .num _ _ _ (by omega) ?_ (by omega) f;unfold val;rw[qV a];simp
 ·rw[qZ a];by_cases c:b%9223372036854775808<9218868437227405312
  ·rw[qV c];refine .num _ _ _ (by omega) ?_ c f;unfold val;rw[qZ a];congr 2;omega
  ·rw[qZ c];by_cases d:b%9223372036854775808=9218868437227405312
   ·rw[qV d];exact .inf _ d f
   ·rw[qZ d];exact .nan _ _ (by omega)
theorem LN{x y x' a:Int}(b:x<y↔x'<a)(c:x=y↔x'=a):compare x y=compare x' a:=by
 show compareOfLessAndEq x y=compareOfLessAndEq x' a;unfold compareOfLessAndEq;simp only[b,c]
theorem LO{m n:Nat}{i j base:Int}{a b:Nat}(f:-1074<=base)(hi:base<=i)(g:base<=j)
  (c:m*2 ^ (i+1074).toNat=a) (d:n*2 ^ (j+1074).toNat=b):
  ∃p,0<p/\m<<<(i-base).toNat*p=a/\n<<<(j-base).toNat*p=b:=by
 refine⟨2 ^ (base+1074).toNat,Nat.two_pow_pos _, ?_, ?_⟩
 ·rw[Nat.shiftLeft_eq,Nat.mul_assoc,<-Nat.pow_add,<-c];congr 2;omega
 ·rw[Nat.shiftLeft_eq,Nat.mul_assoc,<-Nat.pow_add,<-d];congr 2;omega
theorem tJ{a b p:Nat}(c:0<p):a*p<b*p↔a<b:=⟨fun h=>Nat.lt_of_mul_lt_mul_right h,fun h=>Nat.mul_lt_mul_of_pos_right h c⟩
theorem LP{a b:Nat}(A B:Nat){p:Nat}(c:0<p)(d:A*p=val a)(f:B*p=val b)(s t:Bool):
  compare (if s then -(A:Int) else(A:Int)) (if t then -(B:Int) else(B:Int))=compare (if s then -(a:Int) else(a:Int)) (if t then -(b:Int) else(b:Int)):=by
 have g:A<B↔a<b:=by rw[<-tJ c,d,f,Xx]
 have i:B<A↔b<a:=by rw[<-tJ c,d,f,Xx]
 have j:0<A↔0<a:=by rw[<-tJ c,d,Nat.zero_mul];exact VV a
 have k:0<B↔0<b:=by rw[<-tJ c,f,Nat.zero_mul];exact VV b
 cases s<;>cases t<;>simp only[if_true,if_false,Bool.false_eq_true]<;>exact LN (by omega) (by omega)
theorem VU(b:Nat)(a:b<18446744073709551616):sr b=if decide (9223372036854775808<=b) then -((b%9223372036854775808:Nat):Int) else((b%9223372036854775808:Nat):Int):=by
 unfold sr;by_cases h:b<9223372036854775808
 ·rw[qV h,qA (by omega),qZ (by decide)];omega
 ·rw[qZ h,qB (by omega),qV rfl];omega
theorem VG{a b:Nat}(g:a<18446744073709551616)(k:b<18446744073709551616):
  Ieee.double.order a b=if vC a||vC b then none else some (compare (sr a) (sr b)):=by
 have l:=VY a g;have d:=VY b k;have y:∀x:Nat,vC x=decide (9218868437227405312<x%9223372036854775808):=fun _=>rfl
 rw[VU a g,VU b k];unfold Ieee.Format.order;generalize Ieee.double.read a=u at*;generalize Ieee.double.read b=v at*;cases l with
 | nan s f h3 =>
   have e:vC a=true:=qB h3;rw[e];simp[Ieee.Datum.order]
 | inf s h3 h4 =>
   have e:vC a=false:=qA (by omega);cases d with
   | nan t f k3 =>
     have c:vC b=true:=qB k3;rw[e,c];simp[Ieee.Datum.order]
   | inf t k3 k4 =>
     have c:vC b=false:=qA (by omega);rw[e,c,<-h4,<-k4,h3,k3];cases s<;>cases t<;>simp only[Ieee.Datum.order,Bool.or_self,Bool.false_eq_true,if_true,if_false]<;>decide +kernel
   | num m i t k1 k2 k3 k4 =>
     have c:vC b=false:=qA (by omega);rw[e,c,<-h4,<-k4,h3];generalize b%9223372036854775808=A at*
     cases s<;>cases t<;>simp only[Ieee.Datum.order,Bool.or_self,Bool.false_eq_true,if_true,if_false]<;>refine congrArg some (Eq.symm ?_) <;>
      first
      | exact Int.compare_eq_lt.2 (by omega)
      | exact Int.compare_eq_gt.2 (by omega)
 | num m i s h1 h2 h3 h4 =>
   have e:vC a=false:=qA (by omega);cases d with
   | nan t f k3 =>
     have c:vC b=true:=qB k3;rw[e,c];simp[Ieee.Datum.order]
   | inf t k3 k4 =>
     have c:vC b=false:=qA (by omega);rw[e,c,<-h4,<-k4,k3];generalize a%9223372036854775808=z at*
     cases s<;>cases t<;>simp only[Ieee.Datum.order,Bool.or_self,Bool.false_eq_true,if_true,if_false]<;>refine congrArg some (Eq.symm ?_) <;>
      first
      | exact Int.compare_eq_lt.2 (by omega)
      | exact Int.compare_eq_gt.2 (by omega)
   | num n j t k1 k2 k3 k4 =>
     have c:vC b=false:=qA (by omega);rw[e,c,<-h4,<-k4];obtain⟨p,o,q,r⟩:=LO (base:=min i j) (by omega) (by omega) (by omega) h2 k2;have h:=LP _ _ o q r s t;simp only[Ieee.Datum.order,Ieee.signed,Bool.or_self,Bool.false_eq_true,if_false];rw[<-h]
def hw(k:Nat):Nat:=(1023-k)*4503599627370496
theorem LR: hw 1=4602678819172646912:=by decide
theorem VW(k:Nat):hw k<9223372036854775808:=by unfold hw;omega
theorem LS(k:Nat):hw k<18446744073709551616:=by have:=VW k;omega
theorem L3(k:Nat):sr (hw k)=(hw k:Int):=by unfold sr;rw[qV (VW k)]
theorem L4{k:Nat}:vC (hw k)=false:=by
 refine qA ?_;have:hw k<9218868437227405312:=by unfold hw;omega
 omega
theorem L7: ∀k<17,Ieee.double.div (hw k) 4611686018427387904=some (hw (k+1)):=by decide +kernel
def VA(s:Int)(n:Nat):Prop:=1<=n/\n<=16/\(∀k,1<=k->k<n->s<hw k)/\(n=16∨(hw n:Int)<=s)
def pf(b n:Nat):Prop:=if vC b then n=4 else VA (sr b) n
def tK(n k:Nat):Nat:=n*k*3/2
def oZ(n k:Nat):Nat:=if 480<tK n k then(tK n k+479)/480 else 1
def cN(n:Int):Nat:=if n<0 then 0 else if 10000<n then 10000 else n.toNat
def cK(k:Int):Nat:=if k<1 then 1 else if 16<k then 16 else k.toNat
def ct(n k:Int):Nat:=oZ (cN n) (cK k)
theorem L8(n:Int):cN n<=10000:=by unfold cN;split;omega;split<;>omega
theorem VB(k:Int):cK k<=16:=by unfold cK;split;omega;split<;>omega
theorem L9{n k m l:Nat}(h:n<=m)(a:k<=l):n*k<=m*l:=Nat.mul_le_mul h a
def Xz(l:List Nat):Prop:=∀x∈l,x<18446744073709551616
end
end Go.Proofs.YthejglbnkmimjaaGreat

import Derived.Test.YthejglbnkmimjaaGreatQp00
import Derived.WalkKit
import Derived.Laws.FloatArith
set_option linter.unusedVariables false
set_option maxRecDepth 100000
set_option maxHeartbeats 9000000
namespace Go.Proofs.YthejglbnkmimjaaGreat
section
structure jI where
 name:Tw
 data:Tw
 synced:Nat
structure jD where
 cap:Nat
 l:List jI
 count:Nat
 down:Bool
 xB:Nat
 fails:Nat
 keep:List Int
def ks(n:Tw):Bool:=decide (0<n.size)&&decide (n.size<=12)
def j8(l:List jI)(n:Tw):Nat:=l.findIdx (fun f=>decide (f.name=n))
def jM(l:List jI):Nat:=(l.map (fun f=>f.data.size)).sum
def vD(a b:Tw):Bool:=Op.bytesLess a.toList b.toList
def yV(l:List jI)(n:Tw):Nat:=l.findIdx (fun f=>!vD f.name n)
def kL(l:List jI)(f:jI):List jI:=l.take (yV l f.name)++[f]++l.drop (yV l f.name)
def kx(l:List jI)(i:Nat):List jI:=l.take i++l.drop (i+1)
def lM(f:jI)(k:Int):Nat:=f.synced+min k.toNat (f.data.size-f.synced)
def gJ(f:jI)(k:Int):jI:=⟨f.name,f.data.extract 0 (lM f k),lM f k⟩
def bM(l:List jI)(keep:List Int)(n:Nat):List jI:=l.mapIdx (fun i f=>if i<n then gJ f (keep.getD i 0) else f)
def bN(l:List jI)(keep:List Int):List jI:=l.mapIdx (fun i f=>gJ f (keep.getD i 0))
def uf(D:jD)(keep:List Int):jD:={ D with l:=bN D.l keep,down:=true,fails:=0,keep:=[] }
def yQ(D:jD):Bool:=!decide (D.fails=1)
def cX(D:jD):jD:={ D with fails:=D.fails-1 }
def yI(D:jD)(E:jD):Nat × jD:=if yQ D then(0, { E with fails:=D.fails-1 }) else(61,uf D D.keep)
def qVr(D:jD)(keep:List Int):Nat × jD:=if D.down then(61,D) else(0,uf D keep)
def jx(D:jD)(n:Tw):Nat × jD :=
 if D.down then(61,D) else if !ks n then(2,D) else if j8 D.l n<D.l.length then(62,D) else if 400<=D.l.length then(60,D)
 else yI D { D with l:=kL D.l ⟨n,ByteArray.empty,0⟩ }
def kN(l:List jI)(i:Nat)(h:jI->jI):List jI:=l.modify i h
def uP(D:jD)(n s:Tw):jD:={ D with l:=kN D.l (j8 D.l n) (fun f=>{ f with data:=f.data++s }) }
def jc(D:jD)(n s:Tw):Nat × jD :=
 if D.down then(61,D) else if j8 D.l n<D.l.length then(if D.cap<jM D.l+s.size then(60,D)
  else if yQ D then(0,cX (uP D n s)) else(61,uf (uP D n s) D.keep)) else(4,D)
def vE(D:jD)(n:Tw)(a k:Int):Tw × Nat × jD :=
 if D.down then(ByteArray.empty,61,D) else
  let E:={ D with count:=D.count+1 }
  match D.l[j8 D.l n]? with
  | none=>(ByteArray.empty,4,E)
  | some f=>if a<0∨k<0∨(f.data.size:Int)<a∨(f.data.size:Int)-a<k then(ByteArray.empty,2,E) else(f.data.extract a.toNat (a.toNat+k.toNat),0,E)
def kZ(D:jD)(n:Tw):Nat × jD :=
 if D.down then(61,D) else if j8 D.l n<D.l.length then yI D { D with l:=kN D.l (j8 D.l n) (fun f=>{ f with synced:=f.data.size }) } else(4,D)
def fx(l:List jI)(i:Nat)(to:Tw):List jI :=
 match l[i]? with
 | none=>l
 | some f=>kL (let m:=kx l i;if j8 m to<m.length then kx m (j8 m to) else m) { f with name:=to }
def vI(D:jD)(n to:Tw):Nat × jD :=
 if D.down then(61,D) else if j8 D.l n<D.l.length then(if !ks to then(2,D) else yI D { D with l:=if n=to then D.l else fx D.l (j8 D.l n) to }) else(4,D)
def jg(D:jD)(n:Tw):Nat × jD :=
 if D.down then(61,D) else if j8 D.l n<D.l.length then yI D { D with l:=kx D.l (j8 D.l n) } else(4,D)
def jk(D:jD)(n:Tw):Nat × Nat :=
 if D.down then(0,61) else match D.l[j8 D.l n]? with
  | none=>(0,4)
  | some f=>(f.data.size,0)
def be: Nat->Nat->List UInt8
 | 0,_=>[]
 | k+1,n=>UInt8.ofNat (n/256 ^ k)::be k n
def un(l:List UInt8):Nat:=l.foldl (fun a c=>a*256+c.toNat) 0
theorem jn: ∀k n:Nat,(be k n).length=k
 | 0,_=>rfl
 | k+1,n=>by simp[be,jn k n]
theorem FX: un []=0:=rfl
theorem FZ(l:List UInt8)(c:UInt8):un (l++[c])=un l*256+c.toNat:=by simp[un]
theorem Qo: ∀(l:List UInt8) (a:Nat),l.foldl (fun a c=>a*256+c.toNat) a=a*256 ^ l.length+un l
 | [],a=>by simp[un]
 | c::l,a=>by
   have h1:=Qo l (a*256+c.toNat);have b:=Qo l (0*256+c.toNat);simp only[un,List.foldl_cons,List.length_cons]at*;rw[h1,b,Nat.pow_succ];simp only[Nat.add_mul,Nat.zero_mul,Nat.zero_add];rw[Nat.mul_assoc,Nat.mul_comm 256];omega
theorem Qw(c:UInt8)(l:List UInt8):un (c::l)=c.toNat*256 ^ l.length+un l:=by
 have h:=Qo l (0*256+c.toNat);simp only[un,List.foldl_cons]at*;rw[h];simp
theorem lN: ∀l:List UInt8,un l<256 ^ l.length
 | []=>by decide
 | c::l=>by
   have h:=lN l;have a:=c.toNat_lt;rw[Qw,qv,Nat.pow_succ];have:c.toNat*256 ^ l.length<=255*256 ^ l.length:=Nat.mul_le_mul_right _ (by omega);omega
theorem lO: ∀k n:Nat,un (be k n)=n%256 ^ k
 | 0,n=>by rw[be,FX,Nat.pow_zero,Nat.mod_one]
 | k+1,n=>by
   have e:(256:Nat) ^ (k+1)=256 ^ k*256:=Nat.pow_succ ..;rw[be,Qw,jn,lO k n,UInt8.toNat_ofNat',e,Nat.mod_mul,Nat.mul_comm,Nat.add_comm]
theorem mN: ∀l:List UInt8,be l.length (un l)=l:=by
 intro l
 suffices h:∀(l:List UInt8) (m:Nat),be l.length (m*256 ^ l.length+un l)=l by
  have:=h l 0;simpa using this
 intro l
 induction l with
 | nil=>intro m;rfl
 | cons c l f =>
   intro m;have b:=lN l;have d:0<256 ^ l.length:=Nat.pow_pos (by decide);rw[qv,be,Qw]
   have e:m*256 ^ (l.length+1)+(c.toNat*256 ^ l.length+un l)=(m*256+c.toNat)*256 ^ l.length+un l:=by
    rw[Nat.pow_succ,Nat.add_mul,Nat.mul_assoc m 256,Nat.mul_comm 256];omega
   rw[e,f]
   have a:((m*256+c.toNat)*256 ^ l.length+un l)/256 ^ l.length=m*256+c.toNat:=by
    rw[Nat.mul_comm,Nat.mul_add_div d,Nat.div_eq_of_lt b,Nat.add_zero]
   rw[a];have g:=c.toNat_lt;congr 1;apply UInt8.toNat_inj.1;rw[UInt8.toNat_ofNat'];omega
def bs(l:List UInt8):Tw:=⟨l.toArray⟩
theorem mO(s:Tw):bs s.data.toList=s:=by cases s;simp[bs]
theorem kK(l:List UInt8):(bs l).size=l.length:=by simp[bs,ByteArray.size]
theorem cZ(a b:List UInt8):bs a++bs b=bs (a++b):=by
 apply qi;simp[bs]
def jz(s:Tw):Nat:=un (s.data.toList.take 8)
theorem pB(s:Tw):jz s<18446744073709551616:=by
 have h:=lN (s.data.toList.take 8);have a:(s.data.toList.take 8).length<=8:=by rw[qT];omega
 have b:256 ^ (s.data.toList.take 8).length<=256 ^ 8:=Nat.pow_le_pow_right (by decide) a;unfold jz;have:(256:Nat) ^ 8=18446744073709551616:=by decide
 omega
theorem sN(s:Tw)(k:Nat)(h:k<s.size):s.data.toList.take (k+1)=s.data.toList.take k++[s[k]]:=by
 rw[List.take_succ_eq_append_getElem (by simpa using h)];rfl
def stp(x:Nat):Nat:=(x/2)^^^(x%2*3988292384)
def stk: Nat->Nat->Nat
 | 0,x=>x
 | k+1,x=>stk k (stp x)
def pC(x c:Nat):Nat:=stk 8 (x^^^c)
def bZ(x:Nat)(l:List UInt8):Nat:=l.foldl (fun a c=>pC a c.toNat) x
theorem XQ{a b:Nat}(c:a<4294967296)(d:b<4294967296):a^^^b<4294967296:=Nat.xor_lt_two_pow (n:=32) c d
theorem FJ{x:Nat}(h:x<4294967296):stp x<4294967296:=by
 unfold stp;refine XQ (by omega) ?_;have:x%2<2:=Nat.mod_lt _ (by decide);rcases qh (x%2) 1 with a|a
 ·have:x%2=0:=by omega
  rw[this];decide
 ·have:x%2=1:=by omega
  rw[this];decide
theorem XX: ∀(k:Nat) {x:Nat},x<4294967296->stk k x<4294967296
 | 0,_,h=>h
 | k+1,_,h=>XX k (FJ h)
theorem KN: ∀(i j x:Nat),stk (i+j) x=stk j (stk i x)
 | 0,j,x=>by rw[qa];rfl
 | i+1,j,x=>by rw[Nat.succ_add,stk,KN i j,stk]
theorem FK(k x:Nat):stk (k+1) x=stp (stk k x):=KN k 1 x
theorem FV(x:Nat):bZ x []=x:=rfl
theorem FY(x:Nat)(c:UInt8)(l:List UInt8):bZ x (c::l)=bZ (pC x c.toNat) l:=rfl
theorem FU(x:Nat)(l m:List UInt8):bZ x (l++m)=bZ (bZ x l) m:=by unfold bZ;rw[List.foldl_append]
theorem FG(x:Nat)(l:List UInt8)(c:UInt8):bZ x (l++[c])=pC (bZ x l) c.toNat:=FU x l [c]
theorem FW{x c:Nat}(a:x<4294967296)(b:c<256):pC x c<4294967296:=XX 8 (XQ a (by omega))
theorem KO: ∀(l:List UInt8) {x:Nat},x<4294967296->bZ x l<4294967296
 | [],_,h=>h
 | c::l,_,h=>by rw[FY];exact KO l (FW h c.toNat_lt)
theorem FA{x:Nat}(h:x<4294967296):4294967295-x=4294967295^^^x:=by
 have a:=congrArg BitVec.toNat (BitVec.allOnes_xor (x:=BitVec.ofNat 32 x));rw[BitVec.toNat_xor,BitVec.toNat_not,BitVec.toNat_allOnes,BitVec.toNat_ofNat]at a;have b:x%2 ^ 32=x:=Nat.mod_eq_of_lt h;rw[b]at a;have c:(2:Nat) ^ 32-1=4294967295:=by decide
 rw[c]at a;exact a.symm
def pD(a:Nat)(l:List UInt8):Nat:=4294967295-bZ (4294967295-a) l
def sO(l:List UInt8):Nat:=pD 0 l
theorem FC(a:Nat)(l:List UInt8):pD a l<4294967296:=by unfold pD;omega
theorem FD(l:List UInt8):sO l<4294967296:=FC 0 l
def bJ(l:List UInt8):List UInt8:=(be 4 (sO l)).reverse
theorem pE(l:List UInt8):(bJ l).length=4:=by unfold bJ;rw[List.length_reverse,jn]
def hst(x c:Nat):Nat:=(x^^^c)*1099511628211%18446744073709551616
def ym(x:Nat)(l:List UInt8):Nat:=l.foldl (fun a c=>hst a c.toNat) x
def lP(x:Nat):Nat:=(x^^^x/4294967296)*11400714819323198485%18446744073709551616
def nT(x:Nat):Nat:=lP x^^^lP x/536870912
def mP: Nat:=14695981039346656037
def kX(seed:Nat)(l:List UInt8):Nat:=if seed=0 then 7 else nT (ym (mP^^^seed) l)
def cO(h:Nat):Nat:=h/131072+h%131072*140737488355328
def dM(h:Nat):Nat:=cO h+1-cO h%2
theorem xlt{a b:Nat}(c:a<18446744073709551616)(d:b<18446744073709551616):a^^^b<18446744073709551616:=Nat.xor_lt_two_pow (n:=64) c d
theorem FE(x c:Nat):hst x c<18446744073709551616:=Nat.mod_lt _ (by decide)
theorem FF{c:Nat}(a:c<256):c<18446744073709551616:=by omega
theorem FH(x c:Nat):hst x c=(x^^^c)*1099511628211%18446744073709551616:=rfl
theorem sP(x:Nat):ym x []=x:=by unfold ym;rw[List.foldl_nil]
theorem KP(x:Nat)(c:UInt8)(l:List UInt8):ym x (c::l)=ym (hst x c.toNat) l:=by unfold ym;rw[List.foldl_cons]
theorem FI(x:Nat)(l m:List UInt8):ym x (l++m)=ym (ym x l) m:=by unfold ym;rw[List.foldl_append]
theorem KR(x:Nat)(l:List UInt8)(c:UInt8):ym x (l++[c])=hst (ym x l) c.toNat:=by rw[FI,KP,sP]
theorem KS(l:List UInt8):∀ {x:Nat},x<18446744073709551616->ym x l<18446744073709551616:=by
 induction l with
 | nil=>intro x h;rw[sP];exact h
 | cons c l a=>intro x h;rw[KP];exact a (FE x c.toNat)
theorem XZ(x:Nat):lP x<18446744073709551616:=Nat.mod_lt _ (by decide)
theorem FL(x:Nat):nT x<18446744073709551616:=by
 have h:=XZ x;exact xlt h (Nat.lt_of_le_of_lt (Nat.div_le_self _ _) h)
theorem KT: mP<18446744073709551616:=by decide
theorem XJ(seed:Nat)(l:List UInt8):kX seed l<18446744073709551616:=by
 unfold kX;split
 ·decide
 ·exact FL _
theorem XK{h:Nat}(a:h<18446744073709551616):cO h<18446744073709551616:=by unfold cO;omega
theorem FM{h:Nat}(a:h<18446744073709551616):dM h<18446744073709551616:=by
 have:=XK a;unfold dM;omega
theorem FN(h:Nat):cO h|||1=dM h:=by
 unfold dM;generalize cO h=r
 have e:r|||1=2*(r/2)+1:=by
  have b:(r|||1)/2=r/2:=by
   have:(r|||1)/2 ^ 1=r/2 ^ 1|||1/2 ^ 1:=Nat.or_div_two_pow
   simpa using this
  have c:(r|||1)%2=1:=by
   have:(r|||1)%2 ^ 1=r%2 ^ 1|||1%2 ^ 1:=Nat.or_mod_two_pow
   have a:r%2=0∨r%2=1:=(by omega);rcases a with a|a<;>simp[a]
  omega
 omega
def prb(h:Nat)(i a:Int):Nat:=if a<1∨i<0 then 0 else(h+i.toNat*dM h)%18446744073709551616%a.toNat
def nps(p:Int):Nat:=(min p 64).toNat
def gK(h:Nat)(p a:Int):List Nat:=(List.range (nps p)).map fun i=>prb h (i:Nat) a
theorem K7(h:Nat)(i:Int){a:Int}(b:1<=a):prb h i a<a.toNat:=by
 unfold prb;split
 ·omega
 ·exact Nat.mod_lt _ (by omega)
theorem FO(p:Int):nps p<=64:=by unfold nps;omega
theorem sR{h k:Nat}{p a:Int}:k∈gK h p a↔∃i:Nat,i<nps p/\prb h (i:Nat) a=k:=by unfold gK;simp
theorem FP{h k:Nat}{p a:Int}(b:1<=a)(c:k∈gK h p a):k<a.toNat:=by
 obtain⟨i,_,rfl⟩:=sR.1 c;exact K7 h _ b
def pF(h:Nat)(a:Int)(i:Nat):List Nat:=(List.range i).map fun i=>prb h (i:Nat) a
theorem FR(h:Nat)(a:Int)(i:Nat):pF h a (i+1)=pF h a i++[prb h (i:Nat) a]:=by unfold pF;rw[List.range_succ,List.map_append];rfl
theorem FS(h:Nat)(p a:Int):pF h a (nps p)=gK h p a:=rfl
def by8(a b c d f g i j:Bool):Nat:=(((((((j.toNat*2+i.toNat)*2+g.toNat)*2+f.toNat)*2+d.toNat)*2+c.toNat)*2+b.toNat)*2+a.toNat)
theorem FT(a b c d f g i j:Bool):by8 a b c d f g i j<256:=by
 revert a b c d f g i j;decide +kernel
theorem F5(a b c d f g i j:Bool):(by8 a b c d f g i j).testBit 0=a/\(by8 a b c d f g i j).testBit 1=b/\(by8 a b c d f g i j).testBit 2=c/\(by8 a b c d f g i j).testBit 3=d /\
  (by8 a b c d f g i j).testBit 4=f/\(by8 a b c d f g i j).testBit 5=g/\(by8 a b c d f g i j).testBit 6=i/\(by8 a b c d f g i j).testBit 7=j:=by
 revert a b c d f g i j;decide +kernel
def on(D:List Nat)(k:Nat):Bool:=decide (k∈D)
def XV(D:List Nat)(i:Nat):Nat->Nat
 | 0=>0
 | j+1=>XV D i j*2+(on D (8*i+(7-j))).toNat
def byL(D:List Nat)(i:Nat):Nat:=XV D i 8
theorem K8(D:List Nat)(i:Nat):byL D i=by8 (on D (8*i+0)) (on D (8*i+1)) (on D (8*i+2)) (on D (8*i+3)) (on D (8*i+4)) (on D (8*i+5)) (on D (8*i+6)) (on D (8*i+7)):=by
 simp only[byL,XV,by8];simp
theorem mR(D:List Nat)(i:Nat):byL D i<256:=by rw[K8];exact FT _ _ _ _ _ _ _ _
theorem pH(D:List Nat)(i k:Nat)(m:k<8):(byL D i).testBit k=on D (8*i+k):=by
 rw[K8];obtain⟨a,b,c,d,f,g,j,l⟩:=F5 (on D (8*i+0)) (on D (8*i+1)) (on D (8*i+2)) (on D (8*i+3)) (on D (8*i+4)) (on D (8*i+5)) (on D (8*i+6)) (on D (8*i+7))
 match k,m with
 | 0,_=>exact a
 | 1,_=>exact b
 | 2,_=>exact c
 | 3,_=>exact d
 | 4,_=>exact f
 | 5,_=>exact g
 | 6,_=>exact j
 | 7,_=>exact l
theorem K9{a k:Nat}(b:a<256)(c:8<=k):a.testBit k=false:=Nat.testBit_lt_two_pow (qS b (show 2 ^ 8<=2 ^ k from Nat.pow_le_pow_right (by decide) c))
theorem XY{a b:Nat}(c:a<256)(d:b<256)(h:∀k,k<8->a.testBit k=b.testBit k):a=b:=by
 apply Nat.eq_of_testBit_eq;intro k;by_cases f:k<8
 ·exact h k f
 ·rw[K9 c (by omega),K9 d (by omega)]
theorem XU{k:Nat}(a:k<8):2 ^ k<256:=Nat.pow_lt_pow_right (by decide) a (m:=k) (n:=8)
theorem F7{a b:Nat}(c:a<256)(d:b<256):a|||b<256:=Nat.or_lt_two_pow (n:=8) c d
theorem Kq(D E:List Nat)(k:Nat):on (D++E) k=(on D k||on E k):=by unfold on;rw[<-Bool.decide_or];exact decide_eq_decide.2 (by simp)
theorem Kx(x k:Nat):on [x] k=decide (k=x):=by unfold on;exact decide_eq_decide.2 (by simp)
theorem F8(D:List Nat)(x:Nat):byL (D++[x]) (x/8)=byL D (x/8)|||2 ^ (x%8):=by
 have b:x%8<8:=Nat.mod_lt _ (by decide);refine XY (mR _ _) (F7 (mR _ _) (XU b)) fun k a=>?_
 rw[pH _ _ _ a,Nat.testBit_or,pH _ _ _ a,Nat.testBit_two_pow,Kq,Kx];congr 1;exact decide_eq_decide.2 (by omega)
theorem F9(D:List Nat)(x i:Nat)(h:i≠x/8):byL (D++[x]) i=byL D i:=by
 refine XY (mR _ _) (mR _ _) fun k a=>?_
 rw[pH _ _ _ a,pH _ _ _ a,Kq,Kx,qA (by omega),Bool.or_false]
theorem Fq(i:Nat):byL [] i=0:=by
 refine XY (mR _ _) (by decide) fun k a=>?_
 rw[pH _ _ _ a,Nat.zero_testBit];rfl
def lR(D:List Nat)(n:Nat):List UInt8:=(List.range n).map fun i=>UInt8.ofNat (byL D i)
theorem Kz(D:List Nat)(n:Nat):(lR D n).length=n:=by unfold lR;rw[qz,List.length_range]
theorem Fx(D:List Nat){n i:Nat}(hi:i<n):((lR D n).getD i 0).toNat=byL D i:=by
 unfold lR;rw[qj,qu,List.getElem?_range hi];have:=mR D i;simp[UInt8.toNat_ofNat'];omega
def fX(l:List Nat)(p a:Int):List Nat:=l.flatMap fun h=>gK h p a
theorem Fz(p a:Int):fX [] p a=[]:=rfl
theorem Fj(l:List Nat)(h:Nat)(p a:Int):fX (l++[h]) p a=fX l p a++gK h p a:=by unfold fX;simp
def lS(a:Int):Bool:=decide (1<=a/\a<=1000000/\a%8=0)
def dN(l:List Nat)(p a:Int):List UInt8:=if lS a then lR (fX l p a) (a.toNat/8) else []
theorem Fk{l:List Nat}{p a:Int}(h:lS a=false):dN l p a=[]:=by unfold dN;rw[h];rfl
theorem Kj{l:List Nat}{p a:Int}(h:lS a=true):dN l p a=lR (fX l p a) (a.toNat/8):=by unfold dN;rw[h];rfl
theorem Fv{c k:Nat}:(c/2 ^ k%2=1)↔c.testBit k=true:=by
 rw[Nat.testBit_eq_decide_div_mod_eq,decide_eq_true_iff]
def sr(b:Nat):Int:=if b<9223372036854775808 then(b:Int) else 9223372036854775808-(b:Int)
def ki(b:Nat):Bool:=decide (9218868437227405312<b%9223372036854775808)
def bO(b:Nat):Nat:=if b<9223372036854775808 then b+9223372036854775808 else 18446744073709551615-b
def Kk(k:Nat):Nat:=if k<9223372036854775808 then 18446744073709551615-k else k-9223372036854775808
def val(r:Nat):Nat:=if r<4503599627370496 then r else(4503599627370496+r%4503599627370496)*2 ^ (r/4503599627370496-1)
theorem Kv{b:Nat}(h:b<18446744073709551616):Kk (bO b)=b:=by unfold bO Kk;split<;>split<;>omega
theorem Fy{a b:Nat}(c:a<18446744073709551616)(d:b<18446744073709551616)(h:bO a=bO b):a=b:=by rw[<-Kv c,h,Kv d]
theorem Fu(r:Nat):val r<val (r+1):=by
 unfold val;by_cases h:r+1<4503599627370496
 ·rw[qV (by omega),qV h];omega
 ·rw[qZ h];by_cases c:r<4503599627370496
  ·obtain rfl:r=4503599627370495:=(by omega);decide
  ·rw[qZ c];by_cases d:r%4503599627370496=4503599627370495
   ·have a:(r+1)/4503599627370496-1=(r/4503599627370496-1)+1:=(by omega);have b:(r+1)%4503599627370496=0:=(by omega);rw[a,b,d,Nat.pow_succ];have:=Nat.two_pow_pos (r/4503599627370496-1);generalize 2 ^ (r/4503599627370496-1)=p at*;omega
   ·have a:(r+1)/4503599627370496=r/4503599627370496:=(by omega);have b:(r+1)%4503599627370496=r%4503599627370496+1:=(by omega);rw[a,b];exact Nat.mul_lt_mul_of_pos_right (by omega) (Nat.two_pow_pos _)
theorem Ky{a b:Nat}(h:a<b):val a<val b:=by
 induction b with
 | zero=>omega
 | succ b c =>
   have:=Fu b;by_cases e:a=b
   ·subst e;exact this
   ·exact Nat.lt_trans (c (by omega)) this
theorem Fb{a b:Nat}(h:a<=b):val a<=val b:=by
 rcases qh a b with c|c
 ·exact Nat.le_of_lt (Ky c)
 ·obtain rfl:a=b:=by omega
  exact qK _
theorem XG{a b:Nat}:val a<val b↔a<b:=by
 refine⟨fun h=>?_,Ky⟩;rcases qh a b with c|c
 ·exact c
 ·have:=Fb c;omega
theorem Fc: val 0=0:=rfl
theorem Ku(r:Nat):0<val r↔0<r:=by
 have h:=XG (a:=0) (b:=r);rw[Fc]at h;exact h
theorem Fh: Ieee.double.binade=4503599627370496:=by decide
theorem Fl: Ieee.double.infRung=9218868437227405312:=by decide
theorem Fp: Ieee.double.signWeight=9223372036854775808:=by decide
theorem Fs: Ieee.double.leastPlace = -1074:=by decide
inductive sS (b:Nat):Ieee.Datum->Prop where
 | num (m:Nat) (i:Int) (neg:Bool) (h1:-1074<=i) (h2:m*2 ^ (i+1074).toNat=val (b%9223372036854775808)) (h3:b%9223372036854775808<9218868437227405312) (h4:neg=decide (9223372036854775808<=b)):sS b (.number neg m i)
 | inf (neg:Bool) (h3:b%9223372036854775808=9218868437227405312) (h4:neg=decide (9223372036854775808<=b)):sS b (.infinity neg)
 | nan (neg:Bool) (f:Nat) (h3:9218868437227405312<b%9223372036854775808):sS b (.nan neg f)
theorem reads(b:Nat)(g:b<18446744073709551616):sS b (Ieee.double.read b):=by
 have f:(b/9223372036854775808%2==1)=decide (9223372036854775808<=b):=by
  by_cases h:9223372036854775808<=b
  ·rw[qB h];exact beq_iff_eq.2 (by omega)
  ·rw[qA h];exact qg.2 (by omega)
 unfold Ieee.Format.read;simp only[Fh,Fl,Fp,Fs];by_cases a:b%9223372036854775808<4503599627370496
 ·rw[qV a];refine .num _ _ _ (by omega) ?_ (by omega) f;unfold val;rw[qV a];simp
 ·rw[qZ a];by_cases c:b%9223372036854775808<9218868437227405312
  ·rw[qV c];refine .num _ _ _ (by omega) ?_ c f;unfold val;rw[qZ a];congr 2;omega
  ·rw[qZ c];by_cases d:b%9223372036854775808=9218868437227405312
   ·rw[qV d];exact .inf _ d f
   ·rw[qZ d];exact .nan _ _ (by omega)
theorem Fa{x y x' a:Int}(b:x<y↔x'<a)(c:x=y↔x'=a):compare x y=compare x' a:=by
 show compareOfLessAndEq x y=compareOfLessAndEq x' a;unfold compareOfLessAndEq;simp only[b,c]
theorem Fe{m n:Nat}{i j base:Int}{va vb:Nat}(c:-1074<=base)(hi:base<=i)(d:base<=j)
  (a:m*2 ^ (i+1074).toNat=va) (b:n*2 ^ (j+1074).toNat=vb):
  ∃p,0<p/\m<<<(i-base).toNat*p=va/\n<<<(j-base).toNat*p=vb:=by
 refine⟨2 ^ (base+1074).toNat,Nat.two_pow_pos _, ?_, ?_⟩
 ·rw[Nat.shiftLeft_eq,Nat.mul_assoc,<-Nat.pow_add,<-a];congr 2;omega
 ·rw[Nat.shiftLeft_eq,Nat.mul_assoc,<-Nat.pow_add,<-b];congr 2;omega
theorem sT{a b p:Nat}(c:0<p):a*p<b*p↔a<b:=⟨fun h=>Nat.lt_of_mul_lt_mul_right h,fun h=>Nat.mul_lt_mul_of_pos_right h c⟩
theorem Fi{a b:Nat}(A B:Nat){p:Nat}(c:0<p)(d:A*p=val a)(f:B*p=val b)(s t:Bool):
  compare (if s then -(A:Int) else(A:Int)) (if t then -(B:Int) else(B:Int))=compare (if s then -(a:Int) else(a:Int)) (if t then -(b:Int) else(b:Int)):=by
 have g:A<B↔a<b:=by rw[<-sT c,d,f,XG]
 have i:B<A↔b<a:=by rw[<-sT c,d,f,XG]
 have j:0<A↔0<a:=by rw[<-sT c,d,Nat.zero_mul];exact Ku a
 have k:0<B↔0<b:=by rw[<-sT c,f,Nat.zero_mul];exact Ku b
 cases s<;>cases t<;>simp only[if_true,if_false,Bool.false_eq_true]<;>exact Fa (by omega) (by omega)
theorem Kg(b:Nat)(a:b<18446744073709551616):sr b=if decide (9223372036854775808<=b) then -((b%9223372036854775808:Nat):Int) else((b%9223372036854775808:Nat):Int):=by
 unfold sr;by_cases h:b<9223372036854775808
 ·rw[qV h,qA (by omega),qZ (by decide)];omega
 ·rw[qZ h,qB (by omega),qV rfl];omega
theorem Kb{a b:Nat}(g:a<18446744073709551616)(k:b<18446744073709551616):
  Ieee.double.order a b=if ki a||ki b then none else some (compare (sr a) (sr b)):=by
 have l:=reads a g;have d:=reads b k;have y:∀x:Nat,ki x=decide (9218868437227405312<x%9223372036854775808):=fun _=>rfl
 rw[Kg a g,Kg b k];unfold Ieee.Format.order;generalize Ieee.double.read a=u at*;generalize Ieee.double.read b=v at*;cases l with
 | nan s f h3 =>
   have e:ki a=true:=qB h3;rw[e];simp[Ieee.Datum.order]
 | inf s h3 h4 =>
   have e:ki a=false:=qA (by omega);cases d with
   | nan t f k3 =>
     have c:ki b=true:=qB k3;rw[e,c];simp[Ieee.Datum.order]
   | inf t k3 k4 =>
     have c:ki b=false:=qA (by omega);rw[e,c,<-h4,<-k4,h3,k3];cases s<;>cases t<;>simp only[Ieee.Datum.order,Bool.or_self,Bool.false_eq_true,if_true,if_false]<;>decide +kernel
   | num m i t k1 k2 k3 k4 =>
     have c:ki b=false:=qA (by omega);rw[e,c,<-h4,<-k4,h3];generalize b%9223372036854775808=A at*
     cases s<;>cases t<;>simp only[Ieee.Datum.order,Bool.or_self,Bool.false_eq_true,if_true,if_false]<;>refine congrArg some (Eq.symm ?_) <;>
      first
      | exact Int.compare_eq_lt.2 (by omega)
      | exact Int.compare_eq_gt.2 (by omega)
 | num m i s h1 h2 h3 h4 =>
   have e:ki a=false:=qA (by omega);cases d with
   | nan t f k3 =>
     have c:ki b=true:=qB k3;rw[e,c];simp[Ieee.Datum.order]
   | inf t k3 k4 =>
     have c:ki b=false:=qA (by omega);rw[e,c,<-h4,<-k4,k3];generalize a%9223372036854775808=z at*
     cases s<;>cases t<;>simp only[Ieee.Datum.order,Bool.or_self,Bool.false_eq_true,if_true,if_false]<;>refine congrArg some (Eq.symm ?_) <;>
      first
      | exact Int.compare_eq_lt.2 (by omega)
      | exact Int.compare_eq_gt.2 (by omega)
   | num n j t k1 k2 k3 k4 =>
     have c:ki b=false:=qA (by omega);rw[e,c,<-h4,<-k4];obtain⟨p,o,q,r⟩:=Fe (base:=min i j) (by omega) (by omega) (by omega) h2 k2;have h:=Fi _ _ o q r s t;simp only[Ieee.Datum.order,Ieee.signed,Bool.or_self,Bool.false_eq_true,if_false];rw[<-h]
def hw(k:Nat):Nat:=(1023-k)*4503599627370496
theorem Fo: hw 1=4602678819172646912:=by decide
theorem Kc(k:Nat):hw k<9223372036854775808:=by unfold hw;omega
theorem Hq(k:Nat):hw k<18446744073709551616:=by have:=Kc k;omega
theorem Hx(k:Nat):sr (hw k)=(hw k:Int):=by unfold sr;rw[qV (Kc k)]
theorem Hz{k:Nat}:ki (hw k)=false:=by
 refine qA ?_;have:hw k<9218868437227405312:=by unfold hw;omega
 omega
theorem Hj: ∀k<17,Ieee.double.div (hw k) 4611686018427387904=some (hw (k+1)):=by decide +kernel
def Kd(s:Int)(n:Nat):Prop:=1<=n/\n<=16/\(∀k,1<=k->k<n->s<hw k)/\(n=16∨(hw n:Int)<=s)
def pI(b n:Nat):Prop:=if ki b then n=4 else Kd (sr b) n
def s9(n k:Nat):Nat:=n*k*3/2
def nx(n k:Nat):Nat:=if 480<s9 n k then(s9 n k+479)/480 else 1
def cN(n:Int):Nat:=if n<0 then 0 else if 10000<n then 10000 else n.toNat
def cK(k:Int):Nat:=if k<1 then 1 else if 16<k then 16 else k.toNat
def dQ(n k:Int):Nat:=nx (cN n) (cK k)
theorem Hk(n:Int):cN n<=10000:=by unfold cN;split;omega;split<;>omega
theorem Kf(k:Int):cK k<=16:=by unfold cK;split;omega;split<;>omega
theorem Hv{n k m l:Nat}(h:n<=m)(a:k<=l):n*k<=m*l:=Nat.mul_le_mul h a
def XW(l:List Nat):Prop:=∀x∈l,x<18446744073709551616
end
end Go.Proofs.YthejglbnkmimjaaGreat

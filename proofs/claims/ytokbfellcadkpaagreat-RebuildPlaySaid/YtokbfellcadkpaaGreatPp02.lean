import Derived.Test.YtokbfellcadkpaaGreatPp00
import Derived.WalkKit
import Derived.Laws.FloatArith
set_option linter.unusedVariables false
set_option maxRecDepth 100000
set_option maxHeartbeats 9000000
namespace Go.Proofs.YtokbfellcadkpaaGreat
section
structure jU where
 name:Tw
 data:Tw
 synced:Nat
structure jK where
 cap:Nat
 l:List jU
 count:Nat
 down:Bool
 qp:Nat
 fails:Nat
 keep:List Int
def ky(n:Tw):Bool:=decide (0<n.size)&&decide (n.size<=12)
def jD(l:List jU)(n:Tw):Nat:=l.findIdx (fun f=>decide (f.name=n))
def jA(l:List jU):Nat:=(l.map (fun f=>f.data.size)).sum
def vC(a b:Tw):Bool:=Op.bytesLess a.toList b.toList
def vp(l:List jU)(n:Tw):Nat:=l.findIdx (fun f=>!vC f.name n)
def kY(l:List jU)(f:jU):List jU:=l.take (vp l f.name)++[f]++l.drop (vp l f.name)
def kO(l:List jU)(i:Nat):List jU:=l.take i++l.drop (i+1)
def lH(f:jU)(k:Int):Nat:=f.synced+min k.toNat (f.data.size-f.synced)
def uT(f:jU)(k:Int):jU:=⟨f.name,f.data.extract 0 (lH f k),lH f k⟩
def bY(l:List jU)(keep:List Int)(n:Nat):List jU:=l.mapIdx (fun i f=>if i<n then uT f (keep.getD i 0) else f)
def bU(l:List jU)(keep:List Int):List jU:=l.mapIdx (fun i f=>uT f (keep.getD i 0))
def uE(D:jK)(keep:List Int):jK:={ D with l:=bU D.l keep,down:=true,fails:=0,keep:=[] }
def vf(D:jK):Bool:=!decide (D.fails=1)
def bx(D:jK):jK:={ D with fails:=D.fails-1 }
def yW(D:jK)(E:jK):Nat × jK:=if vf D then(0, { E with fails:=D.fails-1 }) else(61,uE D D.keep)
def qYk(D:jK)(keep:List Int):Nat × jK:=if D.down then(61,D) else(0,uE D keep)
def jP(D:jK)(n:Tw):Nat × jK :=
 if D.down then(61,D) else if !ky n then(2,D) else if jD D.l n<D.l.length then(62,D) else if 400<=D.l.length then(60,D)
 else yW D { D with l:=kY D.l ⟨n,ByteArray.empty,0⟩ }
def jd(l:List jU)(i:Nat)(h:jU->jU):List jU:=l.modify i h
def uQ(D:jK)(n s:Tw):jK:={ D with l:=jd D.l (jD D.l n) (fun f=>{ f with data:=f.data++s }) }
def j9(D:jK)(n s:Tw):Nat × jK :=
 if D.down then(61,D) else if jD D.l n<D.l.length then(if D.cap<jA D.l+s.size then(60,D)
  else if vf D then(0,bx (uQ D n s)) else(61,uE (uQ D n s) D.keep)) else(4,D)
def kK(D:jK)(n:Tw)(a k:Int):Tw × Nat × jK :=
 if D.down then(ByteArray.empty,61,D) else
  let E:={ D with count:=D.count+1 }
  match D.l[jD D.l n]? with
  | none=>(ByteArray.empty,4,E)
  | some f=>if a<0∨k<0∨(f.data.size:Int)<a∨(f.data.size:Int)-a<k then(ByteArray.empty,2,E) else(f.data.extract a.toNat (a.toNat+k.toNat),0,E)
def jc(D:jK)(n:Tw):Nat × jK :=
 if D.down then(61,D) else if jD D.l n<D.l.length then yW D { D with l:=jd D.l (jD D.l n) (fun f=>{ f with synced:=f.data.size }) } else(4,D)
def fH(l:List jU)(i:Nat)(to:Tw):List jU :=
 match l[i]? with
 | none=>l
 | some f=>kY (let m:=kO l i;if jD m to<m.length then kO m (jD m to) else m) { f with name:=to }
def vD(D:jK)(n to:Tw):Nat × jK :=
 if D.down then(61,D) else if jD D.l n<D.l.length then(if !ky to then(2,D) else yW D { D with l:=if n=to then D.l else fH D.l (jD D.l n) to }) else(4,D)
def j6(D:jK)(n:Tw):Nat × jK :=
 if D.down then(61,D) else if jD D.l n<D.l.length then yW D { D with l:=kO D.l (jD D.l n) } else(4,D)
def jH(D:jK)(n:Tw):Nat × Nat :=
 if D.down then(0,61) else match D.l[jD D.l n]? with
  | none=>(0,4)
  | some f=>(f.data.size,0)
def cU(d s:Tw)(a k:Nat):List UInt8:=d.data.toList.mapIdx (fun j c=>if a<=j/\j<a+min k s.size then s.data.toList.getD (j-a) 0 else c)
def y7(d s:Tw)(a:Nat):Tw:=⟨(cU d s a s.size).toArray⟩
def gW(D:jK)(n:Tw)(a:Int)(s:Tw):Nat × jK :=
 if jD D.l n<D.l.length then(if a<0 then(2,D) else(0, { D with l:=jd D.l (jD D.l n) (fun f=>{ f with data:=y7 f.data s a.toNat }) })) else(4,D)
def gA(D:jK)(n:Tw)(k:Int):Nat × jK :=
 if jD D.l n<D.l.length then(if k<0 then(2,D) else(0, { D with l:=jd D.l (jD D.l n) (fun f=>⟨f.name,f.data.extract 0 (min k.toNat f.data.size),min f.synced (min k.toNat f.data.size)⟩) })) else(4,D)
def be: Nat->Nat->List UInt8
 | 0,_=>[]
 | k+1,n=>UInt8.ofNat (n/256 ^ k)::be k n
def un(l:List UInt8):Nat:=l.foldl (fun a c=>a*256+c.toNat) 0
theorem jq: ∀k n:Nat,(be k n).length=k
 | 0,_=>rfl
 | k+1,n=>by simp[be,jq k n]
theorem FC: un []=0:=rfl
theorem KH(l:List UInt8)(c:UInt8):un (l++[c])=un l*256+c.toNat:=by simp[un]
theorem Qi: ∀(l:List UInt8) (a:Nat),l.foldl (fun a c=>a*256+c.toNat) a=a*256 ^ l.length+un l
 | [],a=>by simp[un]
 | c::l,a=>by
   have h1:=Qi l (a*256+c.toNat);have b:=Qi l (0*256+c.toNat);simp only[un,List.foldl_cons,List.length_cons]at*;rw[h1,b,Nat.pow_succ];simp only[Nat.add_mul,Nat.zero_mul,Nat.zero_add];rw[Nat.mul_assoc,Nat.mul_comm 256];omega
theorem Qo(c:UInt8)(l:List UInt8):un (c::l)=c.toNat*256 ^ l.length+un l:=by
 have h:=Qi l (0*256+c.toNat);simp only[un,List.foldl_cons]at*;rw[h];simp
theorem fI: ∀l:List UInt8,un l<256 ^ l.length
 | []=>by decide
 | c::l=>by
   have h:=fI l;have a:=c.toNat_lt;rw[Qo,qk,Nat.pow_succ];have:c.toNat*256 ^ l.length<=255*256 ^ l.length:=Nat.mul_le_mul_right _ (by omega);omega
theorem cj: ∀k n:Nat,un (be k n)=n%256 ^ k
 | 0,n=>by rw[be,FC,Nat.pow_zero,Nat.mod_one]
 | k+1,n=>by
   have e:(256:Nat) ^ (k+1)=256 ^ k*256:=Nat.pow_succ ..;rw[be,Qo,jq,cj k n,UInt8.toNat_ofNat',e,Nat.mod_mul,Nat.mul_comm,Nat.add_comm]
theorem mG: ∀l:List UInt8,be l.length (un l)=l:=by
 intro l
 suffices h:∀(l:List UInt8) (m:Nat),be l.length (m*256 ^ l.length+un l)=l by
  have:=h l 0;simpa using this
 intro l
 induction l with
 | nil=>intro m;rfl
 | cons c l f =>
   intro m;have b:=fI l;have d:0<256 ^ l.length:=Nat.pow_pos (by decide);rw[qk,be,Qo]
   have e:m*256 ^ (l.length+1)+(c.toNat*256 ^ l.length+un l)=(m*256+c.toNat)*256 ^ l.length+un l:=by
    rw[Nat.pow_succ,Nat.add_mul,Nat.mul_assoc m 256,Nat.mul_comm 256];omega
   rw[e,f]
   have a:((m*256+c.toNat)*256 ^ l.length+un l)/256 ^ l.length=m*256+c.toNat:=by
    rw[Nat.mul_comm,Nat.mul_add_div d,Nat.div_eq_of_lt b,Nat.add_zero]
   rw[a];have g:=c.toNat_lt;congr 1;apply UInt8.toNat_inj.1;rw[UInt8.toNat_ofNat'];omega
def bs(l:List UInt8):Tw:=⟨l.toArray⟩
theorem bG(s:Tw):bs s.data.toList=s:=by cases s;simp[bs]
theorem ji(l:List UInt8):(bs l).size=l.length:=by simp[bs,ByteArray.size]
theorem uh(a b:List UInt8):bs a++bs b=bs (a++b):=by
 apply ByteArray.ext;simp[bs]
def jR(s:Tw):Nat:=un (s.data.toList.take 8)
theorem pW(s:Tw):jR s<18446744073709551616:=by
 have h:=fI (s.data.toList.take 8);have a:(s.data.toList.take 8).length<=8:=by rw[qS];omega
 have b:256 ^ (s.data.toList.take 8).length<=256 ^ 8:=Nat.pow_le_pow_right (by decide) a;unfold jR;have:(256:Nat) ^ 8=18446744073709551616:=by decide
 omega
theorem sD(s:Tw)(k:Nat)(h:k<s.size):s.data.toList.take (k+1)=s.data.toList.take k++[s[k]]:=by
 rw[List.take_succ_eq_append_getElem (by simpa using h)];rfl
theorem sE{a b c:Nat}(h:a^^^b=a^^^c):b=c:=by
 have d:=congrArg (fun x=>a^^^x) h;simp only[<-Nat.xor_assoc,Nat.xor_self,Nat.zero_xor]at d;exact d
theorem KI{a b:Nat}(h:a^^^b=0):a=b:=by
 have c:a^^^b=a^^^a:=by rw[h,Nat.xor_self]
 exact(sE c).symm
def stp(x:Nat):Nat:=(x/2)^^^(x%2*3988292384)
def stk: Nat->Nat->Nat
 | 0,x=>x
 | k+1,x=>stk k (stp x)
def pA(x c:Nat):Nat:=stk 8 (x^^^c)
def vS(x:Nat)(l:List UInt8):Nat:=l.foldl (fun a c=>pA a c.toNat) x
theorem fL{a b:Nat}(c:a<4294967296)(d:b<4294967296):a^^^b<4294967296:=Nat.xor_lt_two_pow (n:=32) c d
theorem KL{x:Nat}(h:x<4294967296):stp x<4294967296:=by
 unfold stp;refine fL (by omega) ?_;have:x%2<2:=Nat.mod_lt _ (by decide);rcases Nat.lt_or_ge (x%2) 1 with a|a
 ·have:x%2=0:=by omega
  rw[this];decide
 ·have:x%2=1:=by omega
  rw[this];decide
theorem FD(a b p:Nat)(c:a<2)(d:b<2):(a^^^b)*p=a*p^^^b*p:=by
 match a,b,c,d with
 | 0,0,_,_=>simp
 | 0,1,_,_=>simp
 | 1,0,_,_=>simp
 | 1,1,_,_=>simp
theorem FE(p q r s:Nat):p^^^q^^^(r^^^s)=p^^^r^^^(q^^^s):=by
 rw[Nat.xor_assoc,Nat.xor_assoc,<-Nat.xor_assoc q,<-Nat.xor_assoc r,Nat.xor_comm q r]
theorem FF(a b:Nat):stp (a^^^b)=stp a^^^stp b:=by
 unfold stp;have c:(a^^^b)/2=a/2^^^b/2:=Nat.xor_div_two;have d:(a^^^b)%2=a%2^^^b%2:=Nat.xor_mod_two_pow (n:=1);rw[c,d,FD _ _ _ (Nat.mod_lt _ (by decide)) (Nat.mod_lt _ (by decide))];exact FE _ _ _ _
theorem FH{x:Nat}(h:x<4294967296)(b:stp x=0):x=0:=by
 unfold stp at b;have c:x/2=x%2*3988292384:=KI b;clear b;have a:x%2=0∨x%2=1:=by omega
 rcases a with a|a
 ·rw[a,Nat.zero_mul]at c;omega
 ·rw[a,Nat.one_mul]at c;omega
theorem Qw: ∀(k:Nat) {x:Nat},x<4294967296->stk k x<4294967296
 | 0,_,h=>h
 | k+1,_,h=>Qw k (KL h)
theorem XQ: ∀(k a b:Nat),stk k (a^^^b)=stk k a^^^stk k b
 | 0,_,_=>rfl
 | k+1,a,b=>by rw[stk,stk,stk,FF,XQ k]
theorem KM: ∀(k:Nat) {x:Nat},x<4294967296->stk k x=0->x=0
 | 0,_,_,h0=>h0
 | k+1,_,h,h0=>FH h (KM k (KL h) h0)
theorem XX{k a b:Nat}(c:a<4294967296)(d:b<4294967296)(h:stk k a=stk k b):a=b:=by
 refine KI (KM k (fL c d) ?_);rw[XQ,h,Nat.xor_self]
theorem XZ: ∀(i j x:Nat),stk (i+j) x=stk j (stk i x)
 | 0,j,x=>by rw[Nat.zero_add];rfl
 | i+1,j,x=>by rw[Nat.succ_add,stk,XZ i j,stk]
theorem FI(k x:Nat):stk (k+1) x=stp (stk k x):=XZ k 1 x
theorem FM(b:Nat):stp (2*b)=b:=by
 unfold stp;have a:2*b/2=b:=by omega
 have c:2*b%2=0:=by omega
 rw[a,c,Nat.zero_mul,Nat.xor_zero]
theorem KN: ∀(k b:Nat),stk k (2 ^ k*b)=b
 | 0,b=>by simp[stk]
 | k+1,b=>by
   have e:2 ^ (k+1)*b=2*(2 ^ k*b):=(by rw[Nat.pow_succ];simp[Nat.mul_assoc,Nat.mul_left_comm]);rw[stk,e,FM,KN k]
def leS: List UInt8->Nat
 | []=>0
 | c::l=>c.toNat^^^256*leS l
theorem FN(c y:Nat)(j:c<256):(c^^^256*y)%256=c/\(c^^^256*y)/256=y:=by
 have a:(c^^^256*y)%2 ^ 8=c%2 ^ 8^^^(256*y)%2 ^ 8:=Nat.xor_mod_two_pow;have b:(c^^^256*y)/2 ^ 8=c/2 ^ 8^^^(256*y)/2 ^ 8:=Nat.xor_div_two_pow;have e:(2:Nat) ^ 8=256:=by decide
 rw[e]at a b;have d:c%256=c:=by omega
 have f:256*y%256=0:=by omega
 have g:c/256=0:=by omega
 have i:256*y/256=y:=by omega
 rw[d,f,Nat.xor_zero]at a;rw[g,i,Nat.zero_xor]at b;exact⟨a,b⟩
theorem sF(c:UInt8)(l:List UInt8):leS (c::l)=c.toNat+256*leS l:=by
 have h:=FN c.toNat (leS l) c.toNat_lt;rw[leS];omega
theorem KO: ∀l:List UInt8,leS l<256 ^ l.length
 | []=>by decide
 | c::l=>by
   have h:=KO l;have a:=c.toNat_lt;rw[sF,qk,Nat.pow_succ];omega
theorem XJ: ∀ {l m:List UInt8},l.length=m.length->leS l=leS m->l=m
 | [],[],_,_=>rfl
 | [],_::_,h,_=>by simp at h
 | _::_,[],h,_=>by simp at h
 | c::l,d::m,h,e=>by
   rw[sF,sF]at e;have hc:=c.toNat_lt;have f:=d.toNat_lt;have a:c=d:=UInt8.toNat_inj.1 (by omega);have b:l=m:=XJ (by simpa using h) (by omega);rw[a,b]
theorem XK{l:List UInt8}(h:l.length<=4):leS l<4294967296:=by
 have a:=KO l;have b:256 ^ l.length<=256 ^ 4:=Nat.pow_le_pow_right (by decide) h;have c:(256:Nat) ^ 4=4294967296:=by decide
 omega
theorem FO(l:List UInt8):leS l.reverse=un l:=by
 suffices h:∀l:List UInt8,leS l=un l.reverse by rw[h,List.reverse_reverse]
 intro l
 induction l with
 | nil=>rfl
 | cons c l a=>rw[sF,List.reverse_cons,KH,a];omega
theorem KP(x:Nat):vS x []=x:=rfl
theorem sH(x:Nat)(c:UInt8)(l:List UInt8):vS x (c::l)=vS (pA x c.toNat) l:=rfl
theorem XV(x:Nat)(l m:List UInt8):vS x (l++m)=vS (vS x l) m:=by unfold vS;rw[List.foldl_append]
theorem FP(x:Nat)(l:List UInt8)(c:UInt8):vS x (l++[c])=pA (vS x l) c.toNat:=XV x l [c]
theorem sI: ∀(l:List UInt8) (x:Nat),vS x l=stk (8*l.length) (x^^^leS l)
 | [],x=>by rw[KP,leS,Nat.xor_zero];rfl
 | c::l,x=>by
   have e:8*(c::l).length=8+8*l.length:=(by rw[qk];omega);have s:stk 8 (256*leS l)=leS l:=KN 8 (leS l);rw[sH,sI l,e,XZ,leS,<-Nat.xor_assoc,XQ 8,s];rfl
theorem XY{x c:Nat}(a:x<4294967296)(b:c<256):pA x c<4294967296:=Qw 8 (fL a (by omega))
theorem fM: ∀(l:List UInt8) {x:Nat},x<4294967296->vS x l<4294967296
 | [],_,h=>h
 | c::l,_,h=>by rw[sH];exact fM l (XY h c.toNat_lt)
theorem KR: ∀(l:List UInt8) {x y:Nat},x<4294967296->y<4294967296->vS x l=vS y l->x=y
 | [],_,_,_,_,h=>h
 | c::l,x,y,hx,hy,h=>by
   rw[sH,sH]at h;have hc:=c.toNat_lt;have b:=KR l (XY hx c.toNat_lt) (XY hy c.toNat_lt) h;have a:=XX (fL hx (by omega)) (fL hy (by omega)) b;rw[Nat.xor_comm x,Nat.xor_comm y]at a;exact sE a
theorem FR{x:Nat}(a:x<4294967296){l m:List UInt8}(h:l.length=m.length)(b:l.length<=4)(e:vS x l=vS x m):l=m:=by
 rw[sI,sI,h]at e;exact XJ h (sE (XX (fL a (XK b)) (fL a (XK (by omega))) e))
theorem FS{x:Nat}(a:x<4294967296)(p q:List UInt8){l m:List UInt8}(h:l.length=m.length)(b:l.length<=4)(e:vS x (p++l++q)=vS x (p++m++q)):l=m:=by
 simp only[XV]at e;exact FR (fM p a) h b (KR q (fM _ (fM _ a)) (fM _ (fM _ a)) e)
theorem KS{x:Nat}(h:x<4294967296):4294967295-x=4294967295^^^x:=by
 have a:=congrArg BitVec.toNat (BitVec.allOnes_xor (x:=BitVec.ofNat 32 x));rw[BitVec.toNat_xor,BitVec.toNat_not,BitVec.toNat_allOnes,BitVec.toNat_ofNat]at a;have b:x%2 ^ 32=x:=Nat.mod_eq_of_lt h;rw[b]at a;have c:(2:Nat) ^ 32-1=4294967295:=by decide
 rw[c]at a;exact a.symm
def nE(a:Nat)(l:List UInt8):Nat:=4294967295-vS (4294967295-a) l
def lI(l:List UInt8):Nat:=nE 0 l
theorem FT(a:Nat)(l:List UInt8):nE a l<4294967296:=by unfold nE;omega
theorem KT(l:List UInt8):lI l<4294967296:=FT 0 l
theorem F5(l:List UInt8):lI l=4294967295^^^vS 4294967295 l:=by
 unfold lI nE;exact KS (fM l (by decide))
def yQ(l:List UInt8):List UInt8:=(be 4 (lI l)).reverse
theorem nF(l:List UInt8):(yQ l).length=4:=by unfold yQ;rw[List.length_reverse,jq]
theorem K7(l:List UInt8):leS (yQ l)=lI l:=by
 unfold yQ;rw[FO,cj];exact Nat.mod_eq_of_lt (KT l)
theorem F7(a t:List UInt8)(d:t.length=4):t=yQ a↔vS 4294967295 (a++t)=stk 32 4294967295:=by
 have g:=fM a (x:=4294967295) (by decide);have e:vS 4294967295 (a++t)=stk 32 (vS 4294967295 a^^^leS t):=by rw[XV,sI t,d]
 have b:vS 4294967295 a^^^lI a=4294967295:=by
  rw[F5,Nat.xor_comm,Nat.xor_assoc,Nat.xor_self,Nat.xor_zero]
 rw[e];constructor
 ·rintro rfl;rw[K7,b]
 ·intro h;have f:=XX (fL g (XK (by omega))) (by decide) h;have c:=sE (f.trans b.symm);rw[<-K7]at c;exact XJ (by rw[d,nF]) c
def hst(x c:Nat):Nat:=(x^^^c)*1099511628211%18446744073709551616
def y8(x:Nat)(l:List UInt8):Nat:=l.foldl (fun a c=>hst a c.toNat) x
def lL(x:Nat):Nat:=(x^^^x/4294967296)*11400714819323198485%18446744073709551616
def nH(x:Nat):Nat:=lL x^^^lL x/536870912
def mW: Nat:=14695981039346656037
def uq(seed:Nat)(l:List UInt8):Nat:=if seed=0 then 7 else nH (y8 (mW^^^seed) l)
def cG(h:Nat):Nat:=h/131072+h%131072*140737488355328
def dU(h:Nat):Nat:=cG h+1-cG h%2
theorem xlt{a b:Nat}(c:a<18446744073709551616)(d:b<18446744073709551616):a^^^b<18446744073709551616:=Nat.xor_lt_two_pow (n:=64) c d
theorem F8(x c:Nat):hst x c<18446744073709551616:=Nat.mod_lt _ (by decide)
theorem F9{c:Nat}(a:c<256):c<18446744073709551616:=by omega
theorem Fq(x c:Nat):hst x c=(x^^^c)*1099511628211%18446744073709551616:=rfl
theorem sL(x:Nat):y8 x []=x:=by unfold y8;rw[List.foldl_nil]
theorem K8(x:Nat)(c:UInt8)(l:List UInt8):y8 x (c::l)=y8 (hst x c.toNat) l:=by unfold y8;rw[List.foldl_cons]
theorem Fx(x:Nat)(l m:List UInt8):y8 x (l++m)=y8 (y8 x l) m:=by unfold y8;rw[List.foldl_append]
theorem K9(x:Nat)(l:List UInt8)(c:UInt8):y8 x (l++[c])=hst (y8 x l) c.toNat:=by rw[Fx,K8,sL]
theorem Kq(l:List UInt8):∀ {x:Nat},x<18446744073709551616->y8 x l<18446744073709551616:=by
 induction l with
 | nil=>intro x h;rw[sL];exact h
 | cons c l a=>intro x h;rw[K8];exact a (F8 x c.toNat)
theorem XU(x:Nat):lL x<18446744073709551616:=Nat.mod_lt _ (by decide)
theorem Fz(x:Nat):nH x<18446744073709551616:=by
 have h:=XU x;exact xlt h (Nat.lt_of_le_of_lt (Nat.div_le_self _ _) h)
theorem Kx: mW<18446744073709551616:=by decide
theorem Kz(seed:Nat)(l:List UInt8):uq seed l<18446744073709551616:=by
 unfold uq;split
 ·decide
 ·exact Fz _
theorem XG{h:Nat}(a:h<18446744073709551616):cG h<18446744073709551616:=by unfold cG;omega
theorem Fj{h:Nat}(a:h<18446744073709551616):dU h<18446744073709551616:=by
 have:=XG a;unfold dU;omega
theorem Fk(h:Nat):cG h|||1=dU h:=by
 unfold dU;generalize cG h=r
 have e:r|||1=2*(r/2)+1:=by
  have b:(r|||1)/2=r/2:=by
   have:(r|||1)/2 ^ 1=r/2 ^ 1|||1/2 ^ 1:=Nat.or_div_two_pow
   simpa using this
  have c:(r|||1)%2=1:=by
   have:(r|||1)%2 ^ 1=r%2 ^ 1|||1%2 ^ 1:=Nat.or_mod_two_pow
   have a:r%2=0∨r%2=1:=(by omega);rcases a with a|a<;>simp[a]
  omega
 omega
def prb(h:Nat)(i a:Int):Nat:=if a<1∨i<0 then 0 else(h+i.toNat*dU h)%18446744073709551616%a.toNat
def nps(p:Int):Nat:=(min p 64).toNat
def ux(h:Nat)(p a:Int):List Nat:=(List.range (nps p)).map fun i=>prb h (i:Nat) a
theorem Kj(h:Nat)(i:Int){a:Int}(b:1<=a):prb h i a<a.toNat:=by
 unfold prb;split
 ·omega
 ·exact Nat.mod_lt _ (by omega)
theorem Fv(p:Int):nps p<=64:=by unfold nps;omega
theorem sM{h k:Nat}{p a:Int}:k∈ux h p a↔∃i:Nat,i<nps p/\prb h (i:Nat) a=k:=by unfold ux;simp
theorem Fy{h k:Nat}{p a:Int}(b:1<=a)(c:k∈ux h p a):k<a.toNat:=by
 obtain⟨i,_,rfl⟩:=sM.1 c;exact Kj h _ b
def pB(h:Nat)(a:Int)(i:Nat):List Nat:=(List.range i).map fun i=>prb h (i:Nat) a
theorem Fu(h:Nat)(a:Int)(i:Nat):pB h a (i+1)=pB h a i++[prb h (i:Nat) a]:=by unfold pB;rw[List.range_succ,List.map_append];rfl
theorem Fb(h:Nat)(p a:Int):pB h a (nps p)=ux h p a:=rfl
def by8(a b c d f g i j:Bool):Nat:=(((((((j.toNat*2+i.toNat)*2+g.toNat)*2+f.toNat)*2+d.toNat)*2+c.toNat)*2+b.toNat)*2+a.toNat)
theorem Fc(a b c d f g i j:Bool):by8 a b c d f g i j<256:=by
 revert a b c d f g i j;decide +kernel
theorem Fh(a b c d f g i j:Bool):(by8 a b c d f g i j).testBit 0=a/\(by8 a b c d f g i j).testBit 1=b/\(by8 a b c d f g i j).testBit 2=c/\(by8 a b c d f g i j).testBit 3=d /\
  (by8 a b c d f g i j).testBit 4=f/\(by8 a b c d f g i j).testBit 5=g/\(by8 a b c d f g i j).testBit 6=i/\(by8 a b c d f g i j).testBit 7=j:=by
 revert a b c d f g i j;decide +kernel
def on(D:List Nat)(k:Nat):Bool:=decide (k∈D)
def XW(D:List Nat)(i:Nat):Nat->Nat
 | 0=>0
 | j+1=>XW D i j*2+(on D (8*i+(7-j))).toNat
def byL(D:List Nat)(i:Nat):Nat:=XW D i 8
theorem Kk(D:List Nat)(i:Nat):byL D i=by8 (on D (8*i+0)) (on D (8*i+1)) (on D (8*i+2)) (on D (8*i+3)) (on D (8*i+4)) (on D (8*i+5)) (on D (8*i+6)) (on D (8*i+7)):=by
 simp only[byL,XW,by8];simp
theorem mA(D:List Nat)(i:Nat):byL D i<256:=by rw[Kk];exact Fc _ _ _ _ _ _ _ _
theorem pC(D:List Nat)(i k:Nat)(m:k<8):(byL D i).testBit k=on D (8*i+k):=by
 rw[Kk];obtain⟨a,b,c,d,f,g,j,l⟩:=Fh (on D (8*i+0)) (on D (8*i+1)) (on D (8*i+2)) (on D (8*i+3)) (on D (8*i+4)) (on D (8*i+5)) (on D (8*i+6)) (on D (8*i+7))
 match k,m with
 | 0,_=>exact a
 | 1,_=>exact b
 | 2,_=>exact c
 | 3,_=>exact d
 | 4,_=>exact f
 | 5,_=>exact g
 | 6,_=>exact j
 | 7,_=>exact l
theorem Kv{a k:Nat}(b:a<256)(c:8<=k):a.testBit k=false:=Nat.testBit_lt_two_pow (qR b (show 2 ^ 8<=2 ^ k from Nat.pow_le_pow_right (by decide) c))
theorem XA{a b:Nat}(c:a<256)(d:b<256)(h:∀k,k<8->a.testBit k=b.testBit k):a=b:=by
 apply Nat.eq_of_testBit_eq;intro k;by_cases f:k<8
 ·exact h k f
 ·rw[Kv c (by omega),Kv d (by omega)]
theorem XB{k:Nat}(a:k<8):2 ^ k<256:=Nat.pow_lt_pow_right (by decide) a (m:=k) (n:=8)
theorem Fl{a b:Nat}(c:a<256)(d:b<256):a|||b<256:=Nat.or_lt_two_pow (n:=8) c d
theorem Ky(D E:List Nat)(k:Nat):on (D++E) k=(on D k||on E k):=by unfold on;rw[<-Bool.decide_or];exact decide_eq_decide.2 (by simp)
theorem Ku(x k:Nat):on [x] k=decide (k=x):=by unfold on;exact decide_eq_decide.2 (by simp)
theorem Fp(D:List Nat)(x:Nat):byL (D++[x]) (x/8)=byL D (x/8)|||2 ^ (x%8):=by
 have b:x%8<8:=Nat.mod_lt _ (by decide);refine XA (mA _ _) (Fl (mA _ _) (XB b)) fun k a=>?_
 rw[pC _ _ _ a,Nat.testBit_or,pC _ _ _ a,Nat.testBit_two_pow,Ky,Ku];congr 1;exact decide_eq_decide.2 (by omega)
theorem Fs(D:List Nat)(x i:Nat)(h:i≠x/8):byL (D++[x]) i=byL D i:=by
 refine XA (mA _ _) (mA _ _) fun k a=>?_
 rw[pC _ _ _ a,pC _ _ _ a,Ky,Ku,qW (by omega),Bool.or_false]
theorem Fa(i:Nat):byL [] i=0:=by
 refine XA (mA _ _) (by decide) fun k a=>?_
 rw[pC _ _ _ a,Nat.zero_testBit];rfl
def lM(D:List Nat)(n:Nat):List UInt8:=(List.range n).map fun i=>UInt8.ofNat (byL D i)
theorem Kg(D:List Nat)(n:Nat):(lM D n).length=n:=by unfold lM;rw[qj,List.length_range]
theorem Fe(D:List Nat){n i:Nat}(hi:i<n):((lM D n).getD i 0).toNat=byL D i:=by
 unfold lM;rw[qz,qu,List.getElem?_range hi];have:=mA D i;simp[UInt8.toNat_ofNat'];omega
def dc(l:List Nat)(p a:Int):List Nat:=l.flatMap fun h=>ux h p a
theorem Fi(p a:Int):dc [] p a=[]:=rfl
theorem Fo(l:List Nat)(h:Nat)(p a:Int):dc (l++[h]) p a=dc l p a++ux h p a:=by unfold dc;simp
def lN(a:Int):Bool:=decide (1<=a/\a<=1000000/\a%8=0)
def dG(l:List Nat)(p a:Int):List UInt8:=if lN a then lM (dc l p a) (a.toNat/8) else []
theorem Hq{l:List Nat}{p a:Int}(h:lN a=false):dG l p a=[]:=by unfold dG;rw[h];rfl
theorem Kb{l:List Nat}{p a:Int}(h:lN a=true):dG l p a=lM (dc l p a) (a.toNat/8):=by unfold dG;rw[h];rfl
theorem Hx{c k:Nat}:(c/2 ^ k%2=1)↔c.testBit k=true:=by
 rw[Nat.testBit_eq_decide_div_mod_eq,decide_eq_true_iff]
def sr(b:Nat):Int:=if b<9223372036854775808 then(b:Int) else 9223372036854775808-(b:Int)
def vX(b:Nat):Bool:=decide (9218868437227405312<b%9223372036854775808)
def val(r:Nat):Nat:=if r<4503599627370496 then r else(4503599627370496+r%4503599627370496)*2 ^ (r/4503599627370496-1)
theorem Hz(r:Nat):val r<val (r+1):=by
 unfold val;by_cases h:r+1<4503599627370496
 ·rw[qV (by omega),qV h];omega
 ·rw[qZ h];by_cases c:r<4503599627370496
  ·obtain rfl:r=4503599627370495:=(by omega);decide
  ·rw[qZ c];by_cases d:r%4503599627370496=4503599627370495
   ·have a:(r+1)/4503599627370496-1=(r/4503599627370496-1)+1:=(by omega);have b:(r+1)%4503599627370496=0:=(by omega);rw[a,b,d,Nat.pow_succ];have:=Nat.two_pow_pos (r/4503599627370496-1);generalize 2 ^ (r/4503599627370496-1)=p at*;omega
   ·have a:(r+1)/4503599627370496=r/4503599627370496:=(by omega);have b:(r+1)%4503599627370496=r%4503599627370496+1:=(by omega);rw[a,b];exact Nat.mul_lt_mul_of_pos_right (by omega) (Nat.two_pow_pos _)
theorem Kc{a b:Nat}(h:a<b):val a<val b:=by
 induction b with
 | zero=>omega
 | succ b c =>
   have:=Hz b;by_cases e:a=b
   ·subst e;exact this
   ·exact Nat.lt_trans (c (by omega)) this
theorem Hj{a b:Nat}(h:a<=b):val a<=val b:=by
 rcases Nat.lt_or_ge a b with c|c
 ·exact Nat.le_of_lt (Kc c)
 ·obtain rfl:a=b:=by omega
  exact qK _
theorem XC{a b:Nat}:val a<val b↔a<b:=by
 refine⟨fun h=>?_,Kc⟩;rcases Nat.lt_or_ge a b with c|c
 ·exact c
 ·have:=Hj c;omega
theorem Hk: val 0=0:=rfl
theorem Kd(r:Nat):0<val r↔0<r:=by
 have h:=XC (a:=0) (b:=r);rw[Hk]at h;exact h
theorem Hv: Ieee.double.binade=4503599627370496:=by decide
theorem Hy: Ieee.double.infRung=9218868437227405312:=by decide
theorem Hu: Ieee.double.signWeight=9223372036854775808:=by decide
theorem Hb: Ieee.double.leastPlace = -1074:=by decide
inductive sN (b:Nat):Ieee.Datum->Prop where
 | num (m:Nat) (i:Int) (neg:Bool) (h1:-1074<=i) (h2:m*2 ^ (i+1074).toNat=val (b%9223372036854775808)) (h3:b%9223372036854775808<9218868437227405312) (h4:neg=decide (9223372036854775808<=b)):sN b (.number neg m i)
 | inf (neg:Bool) (h3:b%9223372036854775808=9218868437227405312) (h4:neg=decide (9223372036854775808<=b)):sN b (.infinity neg)
 | nan (neg:Bool) (f:Nat) (h3:9218868437227405312<b%9223372036854775808):sN b (.nan neg f)
theorem Kf(b:Nat)(g:b<18446744073709551616):sN b (Ieee.double.read b):=by
 have f:(b/9223372036854775808%2==1)=decide (9223372036854775808<=b):=by
  by_cases h:9223372036854775808<=b
  ·rw[qA h];exact beq_iff_eq.2 (by omega)
  ·rw[qW h];exact qv.2 (by omega)
 unfold Ieee.Format.read;simp only[Hv,Hy,Hu,Hb];by_cases a:b%9223372036854775808<4503599627370496
 ·rw[qV a];refine .num _ _ _ (by omega) ?_ (by omega) f;unfold val;rw[qV a];simp
 ·rw[qZ a];by_cases c:b%9223372036854775808<9218868437227405312
  ·rw[qV c];refine .num _ _ _ (by omega) ?_ c f;unfold val;rw[qZ a];congr 2;omega
  ·rw[qZ c];by_cases d:b%9223372036854775808=9218868437227405312
   ·rw[qV d];exact .inf _ d f
   ·rw[qZ d];exact .nan _ _ (by omega)
theorem Hf{x y x' a:Int}(b:x<y↔x'<a)(c:x=y↔x'=a):compare x y=compare x' a:=by
 show compareOfLessAndEq x y=compareOfLessAndEq x' a;unfold compareOfLessAndEq;simp only[b,c]
theorem Hh{m n:Nat}{i j base:Int}{a b:Nat}(f:-1074<=base)(hi:base<=i)(g:base<=j)
  (c:m*2 ^ (i+1074).toNat=a) (d:n*2 ^ (j+1074).toNat=b):
  ∃p,0<p/\m<<<(i-base).toNat*p=a/\n<<<(j-base).toNat*p=b:=by
 refine⟨2 ^ (base+1074).toNat,Nat.two_pow_pos _, ?_, ?_⟩
 ·rw[Nat.shiftLeft_eq,Nat.mul_assoc,<-Nat.pow_add,<-c];congr 2;omega
 ·rw[Nat.shiftLeft_eq,Nat.mul_assoc,<-Nat.pow_add,<-d];congr 2;omega
theorem sO{a b p:Nat}(c:0<p):a*p<b*p↔a<b:=⟨fun h=>Nat.lt_of_mul_lt_mul_right h,fun h=>Nat.mul_lt_mul_of_pos_right h c⟩
theorem Hl{a b:Nat}(A B:Nat){p:Nat}(c:0<p)(d:A*p=val a)(f:B*p=val b)(s t:Bool):
  compare (if s then -(A:Int) else(A:Int)) (if t then -(B:Int) else(B:Int))=compare (if s then -(a:Int) else(a:Int)) (if t then -(b:Int) else(b:Int)):=by
 have g:A<B↔a<b:=by rw[<-sO c,d,f,XC]
 have i:B<A↔b<a:=by rw[<-sO c,d,f,XC]
 have j:0<A↔0<a:=by rw[<-sO c,d,Nat.zero_mul];exact Kd a
 have k:0<B↔0<b:=by rw[<-sO c,f,Nat.zero_mul];exact Kd b
 cases s<;>cases t<;>simp only[if_true,if_false,Bool.false_eq_true]<;>exact Hf (by omega) (by omega)
theorem Kh(b:Nat)(a:b<18446744073709551616):sr b=if decide (9223372036854775808<=b) then -((b%9223372036854775808:Nat):Int) else((b%9223372036854775808:Nat):Int):=by
 unfold sr;by_cases h:b<9223372036854775808
 ·rw[qV h,qW (by omega),qZ (by decide)];omega
 ·rw[qZ h,qA (by omega),qV rfl];omega
theorem Kl{a b:Nat}(g:a<18446744073709551616)(k:b<18446744073709551616):
  Ieee.double.order a b=if vX a||vX b then none else some (compare (sr a) (sr b)):=by
 have l:=Kf a g;have d:=Kf b k;have y:∀x:Nat,vX x=decide (9218868437227405312<x%9223372036854775808):=fun _=>rfl
 rw[Kh a g,Kh b k];unfold Ieee.Format.order;generalize Ieee.double.read a=u at*;generalize Ieee.double.read b=v at*;cases l with
 | nan s f h3 =>
   have e:vX a=true:=qA h3;rw[e];simp[Ieee.Datum.order]
 | inf s h3 h4 =>
   have e:vX a=false:=qW (by omega);cases d with
   | nan t f k3 =>
     have c:vX b=true:=qA k3;rw[e,c];simp[Ieee.Datum.order]
   | inf t k3 k4 =>
     have c:vX b=false:=qW (by omega);rw[e,c,<-h4,<-k4,h3,k3];cases s<;>cases t<;>simp only[Ieee.Datum.order,Bool.or_self,Bool.false_eq_true,if_true,if_false]<;>decide +kernel
   | num m i t k1 k2 k3 k4 =>
     have c:vX b=false:=qW (by omega);rw[e,c,<-h4,<-k4,h3];generalize b%9223372036854775808=A at*
     cases s<;>cases t<;>simp only[Ieee.Datum.order,Bool.or_self,Bool.false_eq_true,if_true,if_false]<;>refine congrArg some (Eq.symm ?_) <;>
      first
      | exact Int.compare_eq_lt.2 (by omega)
      | exact Int.compare_eq_gt.2 (by omega)
 | num m i s h1 h2 h3 h4 =>
   have e:vX a=false:=qW (by omega);cases d with
   | nan t f k3 =>
     have c:vX b=true:=qA k3;rw[e,c];simp[Ieee.Datum.order]
   | inf t k3 k4 =>
     have c:vX b=false:=qW (by omega);rw[e,c,<-h4,<-k4,k3];generalize a%9223372036854775808=z at*
     cases s<;>cases t<;>simp only[Ieee.Datum.order,Bool.or_self,Bool.false_eq_true,if_true,if_false]<;>refine congrArg some (Eq.symm ?_) <;>
      first
      | exact Int.compare_eq_lt.2 (by omega)
      | exact Int.compare_eq_gt.2 (by omega)
   | num n j t k1 k2 k3 k4 =>
     have c:vX b=false:=qW (by omega);rw[e,c,<-h4,<-k4];obtain⟨p,o,q,r⟩:=Hh (base:=min i j) (by omega) (by omega) (by omega) h2 k2;have h:=Hl _ _ o q r s t;simp only[Ieee.Datum.order,Ieee.signed,Bool.or_self,Bool.false_eq_true,if_false];rw[<-h]
def hw(k:Nat):Nat:=(1023-k)*4503599627370496
theorem Hn: hw 1=4602678819172646912:=by decide
theorem Km(k:Nat):hw k<9223372036854775808:=by unfold hw;omega
theorem Hp(k:Nat):hw k<18446744073709551616:=by have:=Km k;omega
theorem Hr(k:Nat):sr (hw k)=(hw k:Int):=by unfold sr;rw[qV (Km k)]
theorem Hs{k:Nat}:vX (hw k)=false:=by
 refine qW ?_;have:hw k<9218868437227405312:=by unfold hw;omega
 omega
theorem Ha: ∀k<17,Ieee.double.div (hw k) 4611686018427387904=some (hw (k+1)):=by decide +kernel
def Kn(s:Int)(n:Nat):Prop:=1<=n/\n<=16/\(∀k,1<=k->k<n->s<hw k)/\(n=16∨(hw n:Int)<=s)
def pD(b n:Nat):Prop:=if vX b then n=4 else Kn (sr b) n
def sP(n k:Nat):Nat:=n*k*3/2
def nI(n k:Nat):Nat:=if 480<sP n k then(sP n k+479)/480 else 1
def cN(n:Int):Nat:=if n<0 then 0 else if 10000<n then 10000 else n.toNat
def cK(k:Int):Nat:=if k<1 then 1 else if 16<k then 16 else k.toNat
def cg(n k:Int):Nat:=nI (cN n) (cK k)
theorem He(n:Int):cN n<=10000:=by unfold cN;split;omega;split<;>omega
theorem Kp(k:Int):cK k<=16:=by unfold cK;split;omega;split<;>omega
theorem Hi{n k m l:Nat}(h:n<=m)(a:k<=l):n*k<=m*l:=Nat.mul_le_mul h a
def XD(l:List Nat):Prop:=∀x∈l,x<18446744073709551616
end
end Go.Proofs.YtokbfellcadkpaaGreat

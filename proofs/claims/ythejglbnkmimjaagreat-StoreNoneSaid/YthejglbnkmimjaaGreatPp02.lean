import Derived.Test.YthejglbnkmimjaaGreatPp00
import Derived.WalkKit
import Derived.Laws.FloatArith
set_option linter.unusedVariables false
set_option maxRecDepth 100000
set_option maxHeartbeats 9000000
namespace Go.Proofs.YthejglbnkmimjaaGreat
section
structure zi where
 name:Tw
 data:Tw
 synced:Nat
structure zr where
 cap:Nat
 l:List zi
 count:Nat
 down:Bool
 qn:Nat
 fails:Nat
 keep:List Int
def ky(n:Tw):Bool:=decide (0<n.size)&&decide (n.size<=12)
def jW(l:List zi)(n:Tw):Nat:=l.findIdx (fun f=>decide (f.name=n))
def jX(l:List zi):Nat:=(l.map (fun f=>f.data.size)).sum
def kB(a b:Tw):Bool:=Op.bytesLess a.toList b.toList
def vO(l:List zi)(n:Tw):Nat:=l.findIdx (fun f=>!kB f.name n)
def kH(l:List zi)(f:zi):List zi:=l.take (vO l f.name)++[f]++l.drop (vO l f.name)
def ku(l:List zi)(i:Nat):List zi:=l.take i++l.drop (i+1)
def ct(f:zi)(k:Int):Nat:=f.synced+min k.toNat (f.data.size-f.synced)
def yO(f:zi)(k:Int):zi:=⟨f.name,f.data.extract 0 (ct f k),ct f k⟩
def uI(l:List zi)(keep:List Int)(n:Nat):List zi:=l.mapIdx (fun i f=>if i<n then yO f (keep.getD i 0) else f)
def uo(l:List zi)(keep:List Int):List zi:=l.mapIdx (fun i f=>yO f (keep.getD i 0))
def vr(D:zr)(keep:List Int):zr:={ D with l:=uo D.l keep,down:=true,fails:=0,keep:=[] }
def vV(D:zr):Bool:=!decide (D.fails=1)
def ug(D:zr):zr:={ D with fails:=D.fails-1 }
def vw(D:zr)(E:zr):Nat × zr:=if vV D then(0, { E with fails:=D.fails-1 }) else(61,vr D D.keep)
def gv(D:zr)(keep:List Int):Nat × zr:=if D.down then(61,D) else(0,vr D keep)
def jB(D:zr)(n:Tw):Nat × zr :=
 if D.down then(61,D) else if !ky n then(2,D) else if jW D.l n<D.l.length then(62,D) else if 400<=D.l.length then(60,D)
 else vw D { D with l:=kH D.l ⟨n,ByteArray.empty,0⟩ }
def ja(l:List zi)(i:Nat)(h:zi->zi):List zi:=l.modify i h
def yB(D:zr)(n s:Tw):zr:={ D with l:=ja D.l (jW D.l n) (fun f=>{ f with data:=f.data++s }) }
def jF(D:zr)(n s:Tw):Nat × zr :=
 if D.down then(61,D) else if jW D.l n<D.l.length then(if D.cap<jX D.l+s.size then(60,D)
  else if vV D then(0,ug (yB D n s)) else(61,vr (yB D n s) D.keep)) else(4,D)
def jx(D:zr)(n:Tw)(a k:Int):Tw × Nat × zr :=
 if D.down then(ByteArray.empty,61,D) else
  let E:={ D with count:=D.count+1 }
  match D.l[jW D.l n]? with
  | none=>(ByteArray.empty,4,E)
  | some f=>if a<0∨k<0∨(f.data.size:Int)<a∨(f.data.size:Int)-a<k then(ByteArray.empty,2,E) else(f.data.extract a.toNat (a.toNat+k.toNat),0,E)
def j6(D:zr)(n:Tw):Nat × zr :=
 if D.down then(61,D) else if jW D.l n<D.l.length then vw D { D with l:=ja D.l (jW D.l n) (fun f=>{ f with synced:=f.data.size }) } else(4,D)
def cw(l:List zi)(i:Nat)(to:Tw):List zi :=
 match l[i]? with
 | none=>l
 | some f=>kH (let m:=ku l i;if jW m to<m.length then ku m (jW m to) else m) { f with name:=to }
def vY(D:zr)(n to:Tw):Nat × zr :=
 if D.down then(61,D) else if jW D.l n<D.l.length then(if !ky to then(2,D) else vw D { D with l:=if n=to then D.l else cw D.l (jW D.l n) to }) else(4,D)
def jL(D:zr)(n:Tw):Nat × zr :=
 if D.down then(61,D) else if jW D.l n<D.l.length then vw D { D with l:=ku D.l (jW D.l n) } else(4,D)
def jQ(D:zr)(n:Tw):Nat × Nat :=
 if D.down then(0,61) else match D.l[jW D.l n]? with
  | none=>(0,4)
  | some f=>(f.data.size,0)
def be: Nat->Nat->List UInt8
 | 0,_=>[]
 | k+1,n=>UInt8.ofNat (n/256 ^ k)::be k n
def un(l:List UInt8):Nat:=l.foldl (fun a c=>a*256+c.toNat) 0
theorem jO: ∀k n:Nat,(be k n).length=k
 | 0,_=>rfl
 | k+1,n=>by simp[be,jO k n]
theorem Yu: un []=0:=rfl
theorem Yg(l:List UInt8)(c:UInt8):un (l++[c])=un l*256+c.toNat:=by simp[un]
theorem pe: ∀(l:List UInt8) (a:Nat),l.foldl (fun a c=>a*256+c.toNat) a=a*256 ^ l.length+un l
 | [],a=>by simp[un]
 | c::l,a=>by
   have h1:=pe l (a*256+c.toNat);have b:=pe l (0*256+c.toNat);simp only[un,List.foldl_cons,List.length_cons]at*;rw[h1,b,Nat.pow_succ];simp only[Nat.add_mul,Nat.zero_mul,Nat.zero_add];rw[Nat.mul_assoc,Nat.mul_comm 256];omega
theorem pw(c:UInt8)(l:List UInt8):un (c::l)=c.toNat*256 ^ l.length+un l:=by
 have h:=pe l (0*256+c.toNat);simp only[un,List.foldl_cons]at*;rw[h];simp
theorem cA: ∀l:List UInt8,un l<256 ^ l.length
 | []=>by decide
 | c::l=>by
   have h:=cA l;have a:=c.toNat_lt;rw[pw,qk,Nat.pow_succ];have:c.toNat*256 ^ l.length<=255*256 ^ l.length:=Nat.mul_le_mul_right _ (by omega);omega
theorem dc: ∀k n:Nat,un (be k n)=n%256 ^ k
 | 0,n=>by rw[be,Yu,Nat.pow_zero,Nat.mod_one]
 | k+1,n=>by
   have e:(256:Nat) ^ (k+1)=256 ^ k*256:=Nat.pow_succ ..;rw[be,pw,jO,dc k n,UInt8.toNat_ofNat',e,Nat.mod_mul,Nat.mul_comm,Nat.add_comm]
theorem dd: ∀l:List UInt8,be l.length (un l)=l:=by
 intro l
 suffices h:∀(l:List UInt8) (m:Nat),be l.length (m*256 ^ l.length+un l)=l by
  have:=h l 0;simpa using this
 intro l
 induction l with
 | nil=>intro m;rfl
 | cons c l f =>
   intro m;have b:=cA l;have d:0<256 ^ l.length:=Nat.pow_pos (by decide);rw[qk,be,pw]
   have e:m*256 ^ (l.length+1)+(c.toNat*256 ^ l.length+un l)=(m*256+c.toNat)*256 ^ l.length+un l:=by
    rw[Nat.pow_succ,Nat.add_mul,Nat.mul_assoc m 256,Nat.mul_comm 256];omega
   rw[e,f]
   have a:((m*256+c.toNat)*256 ^ l.length+un l)/256 ^ l.length=m*256+c.toNat:=by
    rw[Nat.mul_comm,Nat.mul_add_div d,Nat.div_eq_of_lt b,Nat.add_zero]
   rw[a];have g:=c.toNat_lt;congr 1;apply UInt8.toNat_inj.1;rw[UInt8.toNat_ofNat'];omega
def bs(l:List UInt8):Tw:=⟨l.toArray⟩
theorem dQ(s:Tw):bs s.data.toList=s:=by cases s;simp[bs]
theorem jh(l:List UInt8):(bs l).size=l.length:=by simp[bs,ByteArray.size]
theorem gu(a b:List UInt8):bs a++bs b=bs (a++b):=by
 apply ByteArray.ext;simp[bs]
def jJ(s:Tw):Nat:=un (s.data.toList.take 8)
theorem mX(s:Tw):jJ s<18446744073709551616:=by
 have h:=cA (s.data.toList.take 8);have a:(s.data.toList.take 8).length<=8:=by rw[qq];omega
 have b:256 ^ (s.data.toList.take 8).length<=256 ^ 8:=Nat.pow_le_pow_right (by decide) a;unfold jJ;have:(256:Nat) ^ 8=18446744073709551616:=by decide
 omega
theorem rQ(s:Tw)(k:Nat)(h:k<s.size):s.data.toList.take (k+1)=s.data.toList.take k++[s[k]]:=by
 rw[List.take_succ_eq_append_getElem (by simpa using h)];rfl
def stp(x:Nat):Nat:=(x/2)^^^(x%2*3988292384)
def stk: Nat->Nat->Nat
 | 0,x=>x
 | k+1,x=>stk k (stp x)
def mZ(x c:Nat):Nat:=stk 8 (x^^^c)
def uZ(x:Nat)(l:List UInt8):Nat:=l.foldl (fun a c=>mZ a c.toNat) x
theorem rX{a b:Nat}(c:a<4294967296)(d:b<4294967296):a^^^b<4294967296:=Nat.xor_lt_two_pow (n:=32) c d
theorem Yb{x:Nat}(h:x<4294967296):stp x<4294967296:=by
 unfold stp;refine rX (by omega) ?_;have:x%2<2:=Nat.mod_lt _ (by decide);rcases Nat.lt_or_ge (x%2) 1 with a|a
 ·have:x%2=0:=by omega
  rw[this];decide
 ·have:x%2=1:=by omega
  rw[this];decide
theorem rZ: ∀(k:Nat) {x:Nat},x<4294967296->stk k x<4294967296
 | 0,_,h=>h
 | k+1,_,h=>rZ k (Yb h)
theorem Qz: ∀(i j x:Nat),stk (i+j) x=stk j (stk i x)
 | 0,j,x=>by rw[Nat.zero_add];rfl
 | i+1,j,x=>by rw[Nat.succ_add,stk,Qz i j,stk]
theorem Yc(k x:Nat):stk (k+1) x=stp (stk k x):=Qz k 1 x
theorem Yd(x:Nat):uZ x []=x:=rfl
theorem Yf(x:Nat)(c:UInt8)(l:List UInt8):uZ x (c::l)=uZ (mZ x c.toNat) l:=rfl
theorem Yh(x:Nat)(l m:List UInt8):uZ x (l++m)=uZ (uZ x l) m:=by unfold uZ;rw[List.foldl_append]
theorem Yl(x:Nat)(l:List UInt8)(c:UInt8):uZ x (l++[c])=mZ (uZ x l) c.toNat:=Yh x l [c]
theorem Ym{x c:Nat}(a:x<4294967296)(b:c<256):mZ x c<4294967296:=rZ 8 (rX a (by omega))
theorem Qj: ∀(l:List UInt8) {x:Nat},x<4294967296->uZ x l<4294967296
 | [],_,h=>h
 | c::l,_,h=>by rw[Yf];exact Qj l (Ym h c.toNat_lt)
theorem Yn{x:Nat}(h:x<4294967296):4294967295-x=4294967295^^^x:=by
 have a:=congrArg BitVec.toNat (BitVec.allOnes_xor (x:=BitVec.ofNat 32 x));rw[BitVec.toNat_xor,BitVec.toNat_not,BitVec.toNat_allOnes,BitVec.toNat_ofNat]at a;have b:x%2 ^ 32=x:=Nat.mod_eq_of_lt h;rw[b]at a;have c:(2:Nat) ^ 32-1=4294967295:=by decide
 rw[c]at a;exact a.symm
def mJ(a:Nat)(l:List UInt8):Nat:=4294967295-uZ (4294967295-a) l
def nc(l:List UInt8):Nat:=mJ 0 l
theorem Yp(a:Nat)(l:List UInt8):mJ a l<4294967296:=by unfold mJ;omega
theorem Yr(l:List UInt8):nc l<4294967296:=Yp 0 l
def vl(l:List UInt8):List UInt8:=(be 4 (nc l)).reverse
theorem nd(l:List UInt8):(vl l).length=4:=by unfold vl;rw[List.length_reverse,jO]
def hst(x c:Nat):Nat:=(x^^^c)*1099511628211%18446744073709551616
def yP(x:Nat)(l:List UInt8):Nat:=l.foldl (fun a c=>hst a c.toNat) x
def df(x:Nat):Nat:=(x^^^x/4294967296)*11400714819323198485%18446744073709551616
def mK(x:Nat):Nat:=df x^^^df x/536870912
def mV: Nat:=14695981039346656037
def jc(seed:Nat)(l:List UInt8):Nat:=if seed=0 then 7 else mK (yP (mV^^^seed) l)
def uw(h:Nat):Nat:=h/131072+h%131072*140737488355328
def gg(h:Nat):Nat:=uw h+1-uw h%2
theorem xlt{a b:Nat}(c:a<18446744073709551616)(d:b<18446744073709551616):a^^^b<18446744073709551616:=Nat.xor_lt_two_pow (n:=64) c d
theorem Ys(x c:Nat):hst x c<18446744073709551616:=Nat.mod_lt _ (by decide)
theorem Yt{c:Nat}(a:c<256):c<18446744073709551616:=by omega
theorem Ya(x c:Nat):hst x c=(x^^^c)*1099511628211%18446744073709551616:=rfl
theorem rJ(x:Nat):yP x []=x:=by unfold yP;rw[List.foldl_nil]
theorem Qk(x:Nat)(c:UInt8)(l:List UInt8):yP x (c::l)=yP (hst x c.toNat) l:=by unfold yP;rw[List.foldl_cons]
theorem Ye(x:Nat)(l m:List UInt8):yP x (l++m)=yP (yP x l) m:=by unfold yP;rw[List.foldl_append]
theorem Yi(x:Nat)(l:List UInt8)(c:UInt8):yP x (l++[c])=hst (yP x l) c.toNat:=by rw[Ye,Qk,rJ]
theorem Yo(l:List UInt8):∀ {x:Nat},x<18446744073709551616->yP x l<18446744073709551616:=by
 induction l with
 | nil=>intro x h;rw[rJ];exact h
 | cons c l a=>intro x h;rw[Qk];exact a (Ys x c.toNat)
theorem Qv(x:Nat):df x<18446744073709551616:=Nat.mod_lt _ (by decide)
theorem Yw(x:Nat):mK x<18446744073709551616:=by
 have h:=Qv x;exact xlt h (Nat.lt_of_le_of_lt (Nat.div_le_self _ _) h)
theorem UQ: mV<18446744073709551616:=by decide
theorem rK(seed:Nat)(l:List UInt8):jc seed l<18446744073709551616:=by
 unfold jc;split
 ·decide
 ·exact Yw _
theorem rV{h:Nat}(a:h<18446744073709551616):uw h<18446744073709551616:=by unfold uw;omega
theorem UX{h:Nat}(a:h<18446744073709551616):gg h<18446744073709551616:=by
 have:=rV a;unfold gg;omega
theorem UZ(h:Nat):uw h|||1=gg h:=by
 unfold gg;generalize uw h=r
 have e:r|||1=2*(r/2)+1:=by
  have b:(r|||1)/2=r/2:=by
   have:(r|||1)/2 ^ 1=r/2 ^ 1|||1/2 ^ 1:=Nat.or_div_two_pow
   simpa using this
  have c:(r|||1)%2=1:=by
   have:(r|||1)%2 ^ 1=r%2 ^ 1|||1%2 ^ 1:=Nat.or_mod_two_pow
   have a:r%2=0∨r%2=1:=(by omega);rcases a with a|a<;>simp[a]
  omega
 omega
def prb(h:Nat)(i a:Int):Nat:=if a<1∨i<0 then 0 else(h+i.toNat*gg h)%18446744073709551616%a.toNat
def nps(p:Int):Nat:=(min p 64).toNat
def cB(h:Nat)(p a:Int):List Nat:=(List.range (nps p)).map fun i=>prb h (i:Nat) a
theorem UJ(h:Nat)(i:Int){a:Int}(b:1<=a):prb h i a<a.toNat:=by
 unfold prb;split
 ·omega
 ·exact Nat.mod_lt _ (by omega)
theorem Qy{h k:Nat}{p a:Int}:k∈cB h p a↔∃i:Nat,i<nps p/\prb h (i:Nat) a=k:=by unfold cB;simp
theorem UK{c k:Nat}:(c/2 ^ k%2=1)↔c.testBit k=true:=by
 rw[Nat.testBit_eq_decide_div_mod_eq,decide_eq_true_iff]
def sr(b:Nat):Int:=if b<9223372036854775808 then(b:Int) else 9223372036854775808-(b:Int)
def val(r:Nat):Nat:=if r<4503599627370496 then r else(4503599627370496+r%4503599627370496)*2 ^ (r/4503599627370496-1)
theorem UV: Ieee.double.binade=4503599627370496:=by decide
theorem UY: Ieee.double.infRung=9218868437227405312:=by decide
theorem UU: Ieee.double.signWeight=9223372036854775808:=by decide
theorem UG: Ieee.double.leastPlace = -1074:=by decide
inductive nf (b:Nat):Ieee.Datum->Prop where
 | num (m:Nat) (i:Int) (neg:Bool) (h1:-1074<=i) (h2:m*2 ^ (i+1074).toNat=val (b%9223372036854775808)) (h3:b%9223372036854775808<9218868437227405312) (h4:neg=decide (9223372036854775808<=b)):nf b (.number neg m i)
 | inf (neg:Bool) (h3:b%9223372036854775808=9218868437227405312) (h4:neg=decide (9223372036854775808<=b)):nf b (.infinity neg)
 | nan (neg:Bool) (f:Nat) (h3:9218868437227405312<b%9223372036854775808):nf b (.nan neg f)
theorem reads(b:Nat)(g:b<18446744073709551616):nf b (Ieee.double.read b):=by
 have f:(b/9223372036854775808%2==1)=decide (9223372036854775808<=b):=by
  by_cases h:9223372036854775808<=b
  ·rw[qW h];exact beq_iff_eq.2 (by omega)
  ·rw[qG h];exact qy.2 (by omega)
 unfold Ieee.Format.read;simp only[UV,UY,UU,UG];by_cases a:b%9223372036854775808<4503599627370496
 ·rw[qK a];refine .num _ _ _ (by omega) ?_ (by omega) f;unfold val;rw[qK a];simp
 ·rw[qJ a];by_cases c:b%9223372036854775808<9218868437227405312
  ·rw[qK c];refine .num _ _ _ (by omega) ?_ c f;unfold val;rw[qJ a];congr 2;omega
  ·rw[qJ c];by_cases d:b%9223372036854775808=9218868437227405312
   ·rw[qK d];exact .inf _ d f
   ·rw[qJ d];exact .nan _ _ (by omega)
def hw(k:Nat):Nat:=(1023-k)*4503599627370496
end
end Go.Proofs.YthejglbnkmimjaaGreat

/- ZnDiskMath, ZnNumsMath, ZnSumsMath, ZnHashMath, ZnBlMath, ZnFloatMath, ZnRatesMath, ZnFloatFold -/
import Derived.WalkKit
import Derived.Laws.FloatArith
import Derived.Laws.Cover2
namespace Go.Proofs.YtokbfellcadkpaaGreat
set_option maxRecDepth 100000
set_option linter.unusedVariables false
section
structure FileS where
 name:ByteArray
 data:ByteArray
 synced:Nat
structure DiskS where
 cap:Nat
 l:List FileS
 count:Nat
 down:Bool
 starts:Nat
 fails:Nat
 keep:List Int
def nameB (n:ByteArray) : Bool:=decide (0<n.size)&&decide (n.size≤12)
def findS (l:List FileS)(n:ByteArray) : Nat:=l.findIdx (fun f=>decide (f.name=n))
def usedS (l:List FileS) : Nat:=(l.map (fun f=>f.data.size)).sum
def lessB (a b:ByteArray) : Bool:=Op.bytesLess a.toList b.toList
def aheadS (l:List FileS)(n:ByteArray) : Nat:=l.findIdx (fun f=>!lessB f.name n)
def layS (l:List FileS)(f:FileS) : List FileS:=l.take (aheadS l f.name)++[f]++l.drop (aheadS l f.name)
def dropS (l:List FileS)(i:Nat) : List FileS:=l.take i++l.drop (i+1)
def staysS (f:FileS)(k:Int) : Nat:=f.synced+min k.toNat (f.data.size-f.synced)
def crashF (f:FileS)(k:Int) : FileS:=⟨f.name,f.data.extract 0 (staysS f k),staysS f k⟩
def crashK (l:List FileS)(keep:List Int)(n:Nat) : List FileS:=l.mapIdx (fun i f=>if i<n then crashF f (keep.getD i 0) else f)
def crashL (l:List FileS)(keep:List Int) : List FileS:=l.mapIdx (fun i f=>crashF f (keep.getD i 0))
def sinkS (D:DiskS)(keep:List Int) : DiskS:={ D with l:=crashL D.l keep,down:=true,fails:=0,keep:=[] }
def goesS (D:DiskS) : Bool:=!decide (D.fails=1)
def nextS (D:DiskS) : DiskS:={ D with fails:=D.fails-1 }
def doneS (D:DiskS)(E:DiskS) : Nat × DiskS:=if goesS D then(0, { E with fails:=D.fails-1 }) else(61,sinkS D D.keep)
def crashS (D:DiskS)(keep:List Int) : Nat × DiskS:=if D.down then(61,D) else(0,sinkS D keep)
def createS (D:DiskS)(n:ByteArray) : Nat × DiskS :=
 if D.down then(61,D) else if !nameB n then(2,D) else if findS D.l n<D.l.length then(62,D) else if 400≤D.l.length then(60,D)
 else doneS D { D with l:=layS D.l ⟨n,ByteArray.empty,0⟩ }
def setF (l:List FileS)(i:Nat)(h:FileS→FileS) : List FileS:=l.modify i h
def appE (D:DiskS)(n s:ByteArray) : DiskS:={ D with l:=setF D.l (findS D.l n) (fun f=>{ f with data:=f.data++s }) }
def appendS (D:DiskS)(n s:ByteArray) : Nat × DiskS :=
 if D.down then(61,D) else if findS D.l n<D.l.length then(if D.cap<usedS D.l+s.size then(60,D)
  else if goesS D then(0,nextS (appE D n s)) else(61,sinkS (appE D n s) D.keep)) else(4,D)
def readS (D:DiskS)(n:ByteArray)(a k:Int) : ByteArray × Nat × DiskS :=
 if D.down then(ByteArray.empty,61,D) else
  let E:={ D with count:=D.count+1 }
  match D.l[findS D.l n]? with
  | none=>(ByteArray.empty,4,E)
  | some f=>if a<0∨k<0∨(f.data.size:Int)<a∨(f.data.size:Int)-a<k then(ByteArray.empty,2,E) else(f.data.extract a.toNat (a.toNat+k.toNat),0,E)
def syncS (D:DiskS)(n:ByteArray) : Nat × DiskS :=
 if D.down then(61,D) else if findS D.l n<D.l.length then doneS D { D with l:=setF D.l (findS D.l n) (fun f=>{ f with synced:=f.data.size }) } else(4,D)
def renameL (l:List FileS)(i:Nat)(to:ByteArray) : List FileS :=
 match l[i]? with
 | none=>l
 | some f=>layS (let m:=dropS l i;if findS m to<m.length then dropS m (findS m to) else m) { f with name:=to }
def renameS (D:DiskS)(n to:ByteArray) : Nat × DiskS :=
 if D.down then(61,D) else if findS D.l n<D.l.length then(if !nameB to then(2,D) else doneS D { D with l:=if n=to then D.l else renameL D.l (findS D.l n) to }) else(4,D)
def deleteS (D:DiskS)(n:ByteArray) : Nat × DiskS :=
 if D.down then(61,D) else if findS D.l n<D.l.length then doneS D { D with l:=dropS D.l (findS D.l n) } else(4,D)
def sizeS (D:DiskS)(n:ByteArray) : Nat × Nat :=
 if D.down then(0,61) else match D.l[findS D.l n]? with
  | none=>(0,4)
  | some f=>(f.data.size,0)
def overK (d s:ByteArray)(a k:Nat) : List UInt8:=d.data.toList.mapIdx (fun j c=>if a≤j∧j<a+min k s.size then s.data.toList.getD (j-a) 0 else c)
def overS (d s:ByteArray)(a:Nat) : ByteArray:=⟨(overK d s a s.size).toArray⟩
def spoilS (D:DiskS)(n:ByteArray)(a:Int)(s:ByteArray) : Nat × DiskS :=
 if findS D.l n<D.l.length then(if a<0 then(2,D) else(0, { D with l:=setF D.l (findS D.l n) (fun f=>{ f with data:=overS f.data s a.toNat }) })) else(4,D)
def cutS (D:DiskS)(n:ByteArray)(k:Int) : Nat × DiskS :=
 if findS D.l n<D.l.length then(if k<0 then(2,D) else(0, { D with l:=setF D.l (findS D.l n) (fun f=>⟨f.name,f.data.extract 0 (min k.toNat f.data.size),min f.synced (min k.toNat f.data.size)⟩) })) else(4,D)
def be : Nat→Nat→List UInt8
 | 0,_=>[]
 | k+1,n=>UInt8.ofNat (n/256 ^ k)::be k n
def un (l:List UInt8) : Nat:=l.foldl (fun a c=>a*256+c.toNat) 0
theorem be_length : ∀ k n:Nat,(be k n).length=k
 | 0,_=>rfl
 | k+1,n=>by simp[be,be_length k n]
theorem un_nil : un []=0:=rfl
theorem un_snoc (l:List UInt8)(c:UInt8) : un (l++[c])=un l*256+c.toNat:=by simp[un]
theorem fold_un : ∀ (l:List UInt8) (a:Nat),l.foldl (fun a c=>a*256+c.toNat) a=a*256 ^ l.length+un l
 | [],a=>by simp[un]
 | c::l,a=>by
   have h1:=fold_un l (a*256+c.toNat);have h2:=fold_un l (0*256+c.toNat);simp only[un,List.foldl_cons,List.length_cons] at *;rw[h1,h2,Nat.pow_succ];simp only[Nat.add_mul,Nat.zero_mul,Nat.zero_add];rw[Nat.mul_assoc,Nat.mul_comm 256];omega
theorem un_cons (c:UInt8)(l:List UInt8) : un (c::l)=c.toNat*256 ^ l.length+un l:=by
 have h:=fold_un l (0*256+c.toNat);simp only[un,List.foldl_cons] at *;rw[h];simp
theorem un_lt : ∀ l:List UInt8,un l<256 ^ l.length
 | []=>by decide
 | c::l=>by
   have h:=un_lt l;have hc:=c.toNat_lt;rw[un_cons,List.length_cons,Nat.pow_succ];have:c.toNat*256 ^ l.length≤255*256 ^ l.length:=Nat.mul_le_mul_right _ (by omega);omega
theorem un_be : ∀ k n:Nat,un (be k n)=n%256 ^ k
 | 0,n=>by rw[be,un_nil,Nat.pow_zero,Nat.mod_one]
 | k+1,n=>by
   have e:(256:Nat) ^ (k+1)=256 ^ k*256:=Nat.pow_succ ..;rw[be,un_cons,be_length,un_be k n,UInt8.toNat_ofNat',e,Nat.mod_mul,Nat.mul_comm,Nat.add_comm]
theorem be_un : ∀ l:List UInt8,be l.length (un l)=l:=by
 intro l
 suffices h:∀ (l:List UInt8) (m:Nat),be l.length (m*256 ^ l.length+un l)=l by
  have:=h l 0;simpa using this
 intro l
 induction l with
 | nil=>intro m;rfl
 | cons c l ih =>
   intro m;have hl:=un_lt l;have hp:0<256 ^ l.length:=Nat.pow_pos (by decide);rw[List.length_cons,be,un_cons]
   have e:m*256 ^ (l.length+1)+(c.toNat*256 ^ l.length+un l)=(m*256+c.toNat)*256 ^ l.length+un l:=by
    rw[Nat.pow_succ,Nat.add_mul,Nat.mul_assoc m 256,Nat.mul_comm 256];omega
   rw[e,ih]
   have e2:((m*256+c.toNat)*256 ^ l.length+un l)/256 ^ l.length=m*256+c.toNat:=by
    rw[Nat.mul_comm,Nat.mul_add_div hp,Nat.div_eq_of_lt hl,Nat.add_zero]
   rw[e2];have hc:=c.toNat_lt;congr 1;apply UInt8.toNat_inj.1;rw[UInt8.toNat_ofNat'];omega
def bs (l:List UInt8) : ByteArray:=⟨l.toArray⟩
theorem bs_data (s:ByteArray) : bs s.data.toList=s:=by cases s;simp[bs]
theorem bs_size (l:List UInt8) : (bs l).size=l.length:=by simp[bs,ByteArray.size]
theorem bs_append (a b:List UInt8) : bs a++bs b=bs (a++b):=by
 apply ByteArray.ext;simp[bs]
def getS (s:ByteArray) : Nat:=un (s.data.toList.take 8)
theorem getS_lt (s:ByteArray) : getS s<18446744073709551616:=by
 have h:=un_lt (s.data.toList.take 8);have h2:(s.data.toList.take 8).length≤8:=by rw[List.length_take];omega
 have h3:256 ^ (s.data.toList.take 8).length≤256 ^ 8:=Nat.pow_le_pow_right (by decide) h2;unfold getS;have:(256:Nat) ^ 8=18446744073709551616:=by decide
 omega
theorem take_snoc (s:ByteArray)(k:Nat)(h:k<s.size) : s.data.toList.take (k+1)=s.data.toList.take k++[s[k]]:=by
 rw[List.take_succ_eq_append_getElem (by simpa using h)];rfl
def stp (x:Nat) : Nat:=(x/2)^^^(x%2*3988292384)
def stk : Nat→Nat→Nat
 | 0,x=>x
 | k+1,x=>stk k (stp x)
def intoS (x c:Nat) : Nat:=stk 8 (x^^^c)
def foldS (x:Nat)(l:List UInt8) : Nat:=l.foldl (fun a c=>intoS a c.toNat) x
theorem xor_lt {a b:Nat}(ha:a<4294967296)(hb:b<4294967296) : a^^^b<4294967296:=Nat.xor_lt_two_pow (n:=32) ha hb
theorem stp_lt {x:Nat}(h:x<4294967296) : stp x<4294967296:=by
 unfold stp;refine xor_lt (by omega) ?_;have:x%2<2:=Nat.mod_lt _ (by decide);rcases Nat.lt_or_ge (x%2) 1 with h1 | h1
 ·have:x%2=0:=by omega
  rw[this];decide
 ·have:x%2=1:=by omega
  rw[this];decide
theorem mul_xor (a b p:Nat)(ha:a<2)(hb:b<2) : (a^^^b)*p=a*p^^^b*p:=by
 match a,b,ha,hb with
 | 0,0,_,_=>simp
 | 0,1,_,_=>simp
 | 1,0,_,_=>simp
 | 1,1,_,_=>simp
theorem xor_four (p q r s:Nat) : p^^^q^^^(r^^^s)=p^^^r^^^(q^^^s):=by
 rw[Nat.xor_assoc,Nat.xor_assoc,← Nat.xor_assoc q,← Nat.xor_assoc r,Nat.xor_comm q r]
theorem stp_xor (a b:Nat) : stp (a^^^b)=stp a^^^stp b:=by
 unfold stp;have h1:(a^^^b)/2=a/2^^^b/2:=Nat.xor_div_two;have h2:(a^^^b)%2=a%2^^^b%2:=Nat.xor_mod_two_pow (n:=1);rw[h1,h2,mul_xor _ _ _ (Nat.mod_lt _ (by decide)) (Nat.mod_lt _ (by decide))];exact xor_four _ _ _ _
theorem stk_lt : ∀ (k:Nat) {x:Nat},x<4294967296→stk k x<4294967296
 | 0,_,h=>h
 | k+1,_,h=>stk_lt k (stp_lt h)
theorem stk_xor : ∀ (k a b:Nat),stk k (a^^^b)=stk k a^^^stk k b
 | 0,_,_=>rfl
 | k+1,a,b=>by rw[stk,stk,stk,stp_xor,stk_xor k]
theorem stk_add : ∀ (i j x:Nat),stk (i+j) x=stk j (stk i x)
 | 0,j,x=>by rw[Nat.zero_add];rfl
 | i+1,j,x=>by rw[Nat.succ_add,stk,stk_add i j,stk]
theorem stk_one (k x:Nat) : stk (k+1) x=stp (stk k x):=stk_add k 1 x
theorem foldS_nil (x:Nat) : foldS x []=x:=rfl
theorem foldS_cons (x:Nat)(c:UInt8)(l:List UInt8) : foldS x (c::l)=foldS (intoS x c.toNat) l:=rfl
theorem foldS_append (x:Nat)(l m:List UInt8) : foldS x (l++m)=foldS (foldS x l) m:=by unfold foldS;rw[List.foldl_append]
theorem foldS_snoc (x:Nat)(l:List UInt8)(c:UInt8) : foldS x (l++[c])=intoS (foldS x l) c.toNat:=foldS_append x l [c]
theorem intoS_lt {x c:Nat}(hx:x<4294967296)(hc:c<256) : intoS x c<4294967296:=stk_lt 8 (xor_lt hx (by omega))
theorem foldS_lt : ∀ (l:List UInt8) {x:Nat},x<4294967296→foldS x l<4294967296
 | [],_,h=>h
 | c::l,_,h=>by rw[foldS_cons];exact foldS_lt l (intoS_lt h c.toNat_lt)
theorem all_xor {x:Nat}(h:x<4294967296) : 4294967295-x=4294967295^^^x:=by
 have h1:=congrArg BitVec.toNat (BitVec.allOnes_xor (x:=BitVec.ofNat 32 x));rw[BitVec.toNat_xor,BitVec.toNat_not,BitVec.toNat_allOnes,BitVec.toNat_ofNat] at h1;have h2:x%2 ^ 32=x:=Nat.mod_eq_of_lt h;rw[h2] at h1;have h3:(2:Nat) ^ 32-1=4294967295:=by decide
 rw[h3] at h1;exact h1.symm
def moreS (sum:Nat)(l:List UInt8) : Nat:=4294967295-foldS (4294967295-sum) l
def sumS (l:List UInt8) : Nat:=moreS 0 l
theorem moreS_lt (sum:Nat)(l:List UInt8) : moreS sum l<4294967296:=by unfold moreS;omega
theorem sumS_lt (l:List UInt8) : sumS l<4294967296:=moreS_lt 0 l
def tailS (l:List UInt8) : List UInt8:=(be 4 (sumS l)).reverse
theorem tailS_length (l:List UInt8) : (tailS l).length=4:=by unfold tailS;rw[List.length_reverse,be_length]
def hst (x c:Nat) : Nat:=(x^^^c)*1099511628211%18446744073709551616
def foldH (x:Nat)(l:List UInt8) : Nat:=l.foldl (fun a c=>hst a c.toNat) x
def mixA (x:Nat) : Nat:=(x^^^x/4294967296)*11400714819323198485%18446744073709551616
def mixH (x:Nat) : Nat:=mixA x^^^mixA x/536870912
def startH : Nat:=14695981039346656037
def hashH (seed:Nat)(l:List UInt8) : Nat:=if seed=0 then 7 else mixH (foldH (startH^^^seed) l)
def rotH (h:Nat) : Nat:=h/131072+h%131072*140737488355328
def stepH (h:Nat) : Nat:=rotH h+1-rotH h%2
theorem xlt {a b:Nat}(ha:a<18446744073709551616)(hb:b<18446744073709551616) : a^^^b<18446744073709551616:=Nat.xor_lt_two_pow (n:=64) ha hb
theorem hst_lt (x c:Nat) : hst x c<18446744073709551616:=Nat.mod_lt _ (by decide)
theorem byte_big {c:Nat}(hc:c<256) : c<18446744073709551616:=by omega
theorem hst_eq (x c:Nat) : hst x c=(x^^^c)*1099511628211%18446744073709551616:=rfl
theorem foldH_nil (x:Nat) : foldH x []=x:=by unfold foldH;rw[List.foldl_nil]
theorem foldH_cons (x:Nat)(c:UInt8)(l:List UInt8) : foldH x (c::l)=foldH (hst x c.toNat) l:=by unfold foldH;rw[List.foldl_cons]
theorem foldH_append (x:Nat)(l m:List UInt8) : foldH x (l++m)=foldH (foldH x l) m:=by unfold foldH;rw[List.foldl_append]
theorem foldH_snoc (x:Nat)(l:List UInt8)(c:UInt8) : foldH x (l++[c])=hst (foldH x l) c.toNat:=by rw[foldH_append,foldH_cons,foldH_nil]
theorem foldH_lt (l:List UInt8) : ∀ {x:Nat},x<18446744073709551616→foldH x l<18446744073709551616:=by
 induction l with
 | nil=>intro x h;rw[foldH_nil];exact h
 | cons c l ih=>intro x h;rw[foldH_cons];exact ih (hst_lt x c.toNat)
theorem mixA_lt (x:Nat) : mixA x<18446744073709551616:=Nat.mod_lt _ (by decide)
theorem mixH_lt (x:Nat) : mixH x<18446744073709551616:=by
 have h:=mixA_lt x;exact xlt h (Nat.lt_of_le_of_lt (Nat.div_le_self _ _) h)
theorem startH_lt : startH<18446744073709551616:=by decide
theorem hashH_lt (seed:Nat)(l:List UInt8) : hashH seed l<18446744073709551616:=by
 unfold hashH;split
 ·decide
 ·exact mixH_lt _
theorem rotH_lt {h:Nat}(hh:h<18446744073709551616) : rotH h<18446744073709551616:=by unfold rotH;omega
theorem stepH_lt {h:Nat}(hh:h<18446744073709551616) : stepH h<18446744073709551616:=by
 have:=rotH_lt hh;unfold stepH;omega
theorem stepH_or (h:Nat) : rotH h|||1=stepH h:=by
 unfold stepH;generalize rotH h=r
 have e:r|||1=2*(r/2)+1:=by
  have h1:(r|||1)/2=r/2:=by
   have:(r|||1)/2 ^ 1=r/2 ^ 1|||1/2 ^ 1:=Nat.or_div_two_pow
   simpa using this
  have h2:(r|||1)%2=1:=by
   have:(r|||1)%2 ^ 1=r%2 ^ 1|||1%2 ^ 1:=Nat.or_mod_two_pow
   have h3:r%2=0∨r%2=1:=by omega
   rcases h3 with h3 | h3<;>simp[h3]
  omega
 omega
def prb (h:Nat)(i bits:Int) : Nat:=if bits<1∨i<0 then 0 else(h+i.toNat*stepH h)%18446744073709551616%bits.toNat
def nps (p:Int) : Nat:=(min p 64).toNat
def asksL (h:Nat)(p bits:Int) : List Nat:=(List.range (nps p)).map fun i=>prb h (i:Nat) bits
theorem prb_lt (h:Nat)(i:Int){bits:Int}(hb:1≤bits) : prb h i bits<bits.toNat:=by
 unfold prb;split
 ·omega
 ·exact Nat.mod_lt _ (by omega)
theorem nps_le (p:Int) : nps p≤64:=by unfold nps;omega
theorem asksL_mem {h k:Nat}{p bits:Int} : k∈asksL h p bits↔∃ i:Nat,i<nps p∧prb h (i:Nat) bits=k:=by unfold asksL;simp
theorem asksL_lt {h k:Nat}{p bits:Int}(hb:1≤bits)(hk:k∈asksL h p bits) : k<bits.toNat:=by
 obtain⟨i,_,rfl⟩:=asksL_mem.1 hk;exact prb_lt h _ hb
def asksTo (h:Nat)(bits:Int)(i:Nat) : List Nat:=(List.range i).map fun i=>prb h (i:Nat) bits
theorem asksTo_succ (h:Nat)(bits:Int)(i:Nat) : asksTo h bits (i+1)=asksTo h bits i++[prb h (i:Nat) bits]:=by unfold asksTo;rw[List.range_succ,List.map_append];rfl
theorem asksTo_all (h:Nat)(p bits:Int) : asksTo h bits (nps p)=asksL h p bits:=rfl
def by8 (b0 b1 b2 b3 b4 b5 b6 b7:Bool) : Nat:=(((((((b7.toNat*2+b6.toNat)*2+b5.toNat)*2+b4.toNat)*2+b3.toNat)*2+b2.toNat)*2+b1.toNat)*2+b0.toNat)
theorem by8_lt (b0 b1 b2 b3 b4 b5 b6 b7:Bool) : by8 b0 b1 b2 b3 b4 b5 b6 b7<256:=by
 revert b0 b1 b2 b3 b4 b5 b6 b7;decide +kernel
theorem by8_bit (b0 b1 b2 b3 b4 b5 b6 b7:Bool) : (by8 b0 b1 b2 b3 b4 b5 b6 b7).testBit 0=b0∧(by8 b0 b1 b2 b3 b4 b5 b6 b7).testBit 1=b1∧(by8 b0 b1 b2 b3 b4 b5 b6 b7).testBit 2=b2∧(by8 b0 b1 b2 b3 b4 b5 b6 b7).testBit 3=b3 ∧
  (by8 b0 b1 b2 b3 b4 b5 b6 b7).testBit 4=b4∧(by8 b0 b1 b2 b3 b4 b5 b6 b7).testBit 5=b5∧(by8 b0 b1 b2 b3 b4 b5 b6 b7).testBit 6=b6∧(by8 b0 b1 b2 b3 b4 b5 b6 b7).testBit 7=b7:=by
 revert b0 b1 b2 b3 b4 b5 b6 b7;decide +kernel
def on (D:List Nat)(k:Nat) : Bool:=decide (k∈D)
def hbit (D:List Nat)(i:Nat) : Nat→Nat
 | 0=>0
 | j+1=>hbit D i j*2+(on D (8*i+(7-j))).toNat
def byL (D:List Nat)(i:Nat) : Nat:=hbit D i 8
theorem byL_eq (D:List Nat)(i:Nat) : byL D i=by8 (on D (8*i+0)) (on D (8*i+1)) (on D (8*i+2)) (on D (8*i+3)) (on D (8*i+4)) (on D (8*i+5)) (on D (8*i+6)) (on D (8*i+7)):=by
 simp only[byL,hbit,by8];simp
theorem byL_lt (D:List Nat)(i:Nat) : byL D i<256:=by rw[byL_eq];exact by8_lt _ _ _ _ _ _ _ _
theorem byL_bit (D:List Nat)(i k:Nat)(hk:k<8) : (byL D i).testBit k=on D (8*i+k):=by
 rw[byL_eq];obtain⟨h0,h1,h2,h3,h4,h5,h6,h7⟩:=by8_bit (on D (8*i+0)) (on D (8*i+1)) (on D (8*i+2)) (on D (8*i+3)) (on D (8*i+4)) (on D (8*i+5)) (on D (8*i+6)) (on D (8*i+7))
 match k,hk with
 | 0,_=>exact h0
 | 1,_=>exact h1
 | 2,_=>exact h2
 | 3,_=>exact h3
 | 4,_=>exact h4
 | 5,_=>exact h5
 | 6,_=>exact h6
 | 7,_=>exact h7
theorem bit_big {a k:Nat}(ha:a<256)(hk:8≤k) : a.testBit k=false:=Nat.testBit_lt_two_pow (Nat.lt_of_lt_of_le ha (show 2 ^ 8≤2 ^ k from Nat.pow_le_pow_right (by decide) hk))
theorem byte_ext {a b:Nat}(ha:a<256)(hb:b<256)(h:∀ k,k<8→a.testBit k=b.testBit k) : a=b:=by
 apply Nat.eq_of_testBit_eq;intro k;by_cases hk:k<8
 ·exact h k hk
 ·rw[bit_big ha (by omega),bit_big hb (by omega)]
theorem pow8_lt {k:Nat}(hk:k<8) : 2 ^ k<256:=Nat.pow_lt_pow_right (by decide) hk (m:=k) (n:=8)
theorem or_lt8 {a b:Nat}(ha:a<256)(hb:b<256) : a|||b<256:=Nat.or_lt_two_pow (n:=8) ha hb
theorem on_append (D E:List Nat)(k:Nat) : on (D++E) k=(on D k||on E k):=by unfold on;rw[← Bool.decide_or];exact decide_eq_decide.2 (by simp)
theorem on_one (x k:Nat) : on [x] k=decide (k=x):=by unfold on;exact decide_eq_decide.2 (by simp)
theorem byL_set (D:List Nat)(x:Nat) : byL (D++[x]) (x/8)=byL D (x/8)|||2 ^ (x%8):=by
 have hx:x%8<8:=Nat.mod_lt _ (by decide);refine byte_ext (byL_lt _ _) (or_lt8 (byL_lt _ _) (pow8_lt hx)) fun k hk=>?_
 rw[byL_bit _ _ _ hk,Nat.testBit_or,byL_bit _ _ _ hk,Nat.testBit_two_pow,on_append,on_one];congr 1;exact decide_eq_decide.2 (by omega)
theorem byL_far (D:List Nat)(x i:Nat)(h:i≠x/8) : byL (D++[x]) i=byL D i:=by
 refine byte_ext (byL_lt _ _) (byL_lt _ _) fun k hk=>?_
 rw[byL_bit _ _ _ hk,byL_bit _ _ _ hk,on_append,on_one,decide_eq_false (by omega),Bool.or_false]
theorem byL_nil (i:Nat) : byL [] i=0:=by
 refine byte_ext (byL_lt _ _) (by decide) fun k hk=>?_
 rw[byL_bit _ _ _ hk,Nat.zero_testBit];rfl
def bytesL (D:List Nat)(n:Nat) : List UInt8:=(List.range n).map fun i=>UInt8.ofNat (byL D i)
theorem bytesL_length (D:List Nat)(n:Nat) : (bytesL D n).length=n:=by unfold bytesL;rw[List.length_map,List.length_range]
theorem bytesL_at (D:List Nat){n i:Nat}(hi:i<n) : ((bytesL D n).getD i 0).toNat=byL D i:=by
 unfold bytesL;rw[List.getD_eq_getElem?_getD,List.getElem?_map,List.getElem?_range hi];have:=byL_lt D i;simp[UInt8.toNat_ofNat'];omega
def setL (l:List Nat)(p bits:Int) : List Nat:=l.flatMap fun h=>asksL h p bits
theorem setL_nil (p bits:Int) : setL [] p bits=[]:=rfl
theorem setL_snoc (l:List Nat)(h:Nat)(p bits:Int) : setL (l++[h]) p bits=setL l p bits++asksL h p bits:=by unfold setL;simp
def mkOk (bits:Int) : Bool:=decide (1≤bits∧bits≤1000000∧bits%8=0)
def makeL (l:List Nat)(p bits:Int) : List UInt8:=if mkOk bits then bytesL (setL l p bits) (bits.toNat/8) else []
theorem makeL_no {l:List Nat}{p bits:Int}(h:mkOk bits=false) : makeL l p bits=[]:=by unfold makeL;rw[h];rfl
theorem makeL_yes {l:List Nat}{p bits:Int}(h:mkOk bits=true) : makeL l p bits=bytesL (setL l p bits) (bits.toNat/8):=by unfold makeL;rw[h];rfl
theorem bit_shift {c k:Nat} : (c/2 ^ k%2=1)↔c.testBit k=true:=by
 rw[Nat.testBit_eq_decide_div_mod_eq,decide_eq_true_iff]
def sr (b:Nat) : Int:=if b<9223372036854775808 then(b:Int) else 9223372036854775808-(b:Int)
def nanB (b:Nat) : Bool:=decide (9218868437227405312<b%9223372036854775808)
def val (r:Nat) : Nat:=if r<4503599627370496 then r else(4503599627370496+r%4503599627370496)*2 ^ (r/4503599627370496-1)
theorem val_succ (r:Nat) : val r<val (r+1):=by
 unfold val;by_cases h:r+1<4503599627370496
 ·rw[if_pos (by omega),if_pos h];omega
 ·rw[if_neg h];by_cases h2:r<4503599627370496
  ·obtain rfl:r=4503599627370495:=by omega
   decide
  ·rw[if_neg h2];by_cases h3:r%4503599627370496=4503599627370495
   ·have e1:(r+1)/4503599627370496-1=(r/4503599627370496-1)+1:=by omega
    have e2:(r+1)%4503599627370496=0:=by omega
    rw[e1,e2,h3,Nat.pow_succ];have:=Nat.two_pow_pos (r/4503599627370496-1);generalize 2 ^ (r/4503599627370496-1)=p at *;omega
   ·have e1:(r+1)/4503599627370496=r/4503599627370496:=by omega
    have e2:(r+1)%4503599627370496=r%4503599627370496+1:=by omega
    rw[e1,e2];exact Nat.mul_lt_mul_of_pos_right (by omega) (Nat.two_pow_pos _)
theorem val_lt {a b:Nat}(h:a<b) : val a<val b:=by
 induction b with
 | zero=>omega
 | succ b ih =>
   have:=val_succ b;by_cases e:a=b
   ·subst e;exact this
   ·exact Nat.lt_trans (ih (by omega)) this
theorem val_le {a b:Nat}(h:a≤b) : val a≤val b:=by
 rcases Nat.lt_or_ge a b with h1 | h1
 ·exact Nat.le_of_lt (val_lt h1)
 ·obtain rfl:a=b:=by omega
  exact Nat.le_refl _
theorem val_lt_iff {a b:Nat} : val a<val b↔a<b:=by
 refine⟨fun h=>?_,val_lt⟩;rcases Nat.lt_or_ge a b with h1 | h1
 ·exact h1
 ·have:=val_le h1;omega
theorem val_zero : val 0=0:=rfl
theorem val_pos (r:Nat) : 0<val r↔0<r:=by
 have h:=val_lt_iff (a:=0) (b:=r);rw[val_zero] at h;exact h
theorem dbl_binade : Ieee.double.binade=4503599627370496:=by decide
theorem dbl_inf : Ieee.double.infRung=9218868437227405312:=by decide
theorem dbl_sign : Ieee.double.signWeight=9223372036854775808:=by decide
theorem dbl_place : Ieee.double.leastPlace = -1074:=by decide
inductive Reads (b:Nat) : Ieee.Datum→Prop where
 | num (m:Nat) (i:Int) (neg:Bool) (h1:-1074≤i) (h2:m*2 ^ (i+1074).toNat=val (b%9223372036854775808)) (h3:b%9223372036854775808<9218868437227405312) (h4:neg=decide (9223372036854775808≤b)):Reads b (.number neg m i)
 | inf (neg:Bool) (h3:b%9223372036854775808=9218868437227405312) (h4:neg=decide (9223372036854775808≤b)):Reads b (.infinity neg)
 | nan (neg:Bool) (f:Nat) (h3:9218868437227405312<b%9223372036854775808):Reads b (.nan neg f)
theorem reads (b:Nat)(hb:b<18446744073709551616) : Reads b (Ieee.double.read b):=by
 have hn:(b/9223372036854775808%2==1)=decide (9223372036854775808≤b):=by
  by_cases h:9223372036854775808≤b
  ·rw[decide_eq_true h];exact beq_iff_eq.2 (by omega)
  ·rw[decide_eq_false h];exact beq_eq_false_iff_ne.2 (by omega)
 unfold Ieee.Format.read;simp only[dbl_binade,dbl_inf,dbl_sign,dbl_place];by_cases h1:b%9223372036854775808<4503599627370496
 ·rw[if_pos h1];refine .num _ _ _ (by omega) ?_ (by omega) hn;unfold val;rw[if_pos h1];simp
 ·rw[if_neg h1];by_cases h2:b%9223372036854775808<9218868437227405312
  ·rw[if_pos h2];refine .num _ _ _ (by omega) ?_ h2 hn;unfold val;rw[if_neg h1];congr 2;omega
  ·rw[if_neg h2];by_cases h3:b%9223372036854775808=9218868437227405312
   ·rw[if_pos h3];exact .inf _ h3 hn
   ·rw[if_neg h3];exact .nan _ _ (by omega)
theorem cmp_congr {x y x' y':Int}(h1:x<y↔x'<y')(h2:x=y↔x'=y') : compare x y=compare x' y':=by
 show compareOfLessAndEq x y=compareOfLessAndEq x' y';unfold compareOfLessAndEq;simp only[h1,h2]
theorem scaled {m n:Nat}{i j base:Int}{va vb:Nat}(hb:-1074≤base)(hi:base≤i)(hj:base≤j)
  (ea:m*2 ^ (i+1074).toNat=va) (eb:n*2 ^ (j+1074).toNat=vb) :
  ∃ p,0<p∧m<<<(i-base).toNat*p=va∧n<<<(j-base).toNat*p=vb:=by
 refine⟨2 ^ (base+1074).toNat,Nat.two_pow_pos _, ?_, ?_⟩
 ·rw[Nat.shiftLeft_eq,Nat.mul_assoc,← Nat.pow_add,← ea];congr 2;omega
 ·rw[Nat.shiftLeft_eq,Nat.mul_assoc,← Nat.pow_add,← eb];congr 2;omega
theorem mul_lt_iff {a b p:Nat}(hp:0<p) : a*p<b*p↔a<b:=⟨fun h=>Nat.lt_of_mul_lt_mul_right h,fun h=>Nat.mul_lt_mul_of_pos_right h hp⟩
theorem order_num {ra rb:Nat}(A B:Nat){p:Nat}(hp:0<p)(ea:A*p=val ra)(eb:B*p=val rb)(s t:Bool) :
  compare (if s then -(A:Int) else(A:Int)) (if t then -(B:Int) else(B:Int))=compare (if s then -(ra:Int) else(ra:Int)) (if t then -(rb:Int) else(rb:Int)):=by
 have l1:A<B↔ra<rb:=by rw[← mul_lt_iff hp,ea,eb,val_lt_iff]
 have l2:B<A↔rb<ra:=by rw[← mul_lt_iff hp,ea,eb,val_lt_iff]
 have z1:0<A↔0<ra:=by rw[← mul_lt_iff hp,ea,Nat.zero_mul];exact val_pos ra
 have z2:0<B↔0<rb:=by rw[← mul_lt_iff hp,eb,Nat.zero_mul];exact val_pos rb
 cases s<;>cases t<;>simp only[if_true,if_false,Bool.false_eq_true]<;>exact cmp_congr (by omega) (by omega)
theorem sr_eq (b:Nat)(hb:b<18446744073709551616) : sr b=if decide (9223372036854775808≤b) then -((b%9223372036854775808:Nat):Int) else((b%9223372036854775808:Nat):Int):=by
 unfold sr;by_cases h:b<9223372036854775808
 ·rw[if_pos h,decide_eq_false (by omega),if_neg (by decide)];omega
 ·rw[if_neg h,decide_eq_true (by omega),if_pos rfl];omega
theorem order_eq {a b:Nat}(ha:a<18446744073709551616)(hb:b<18446744073709551616) :
  Ieee.double.order a b=if nanB a||nanB b then none else some (compare (sr a) (sr b)):=by
 have Ra:=reads a ha;have Rb:=reads b hb;have na:∀ x:Nat,nanB x=decide (9218868437227405312<x%9223372036854775808):=fun _=>rfl
 rw[sr_eq a ha,sr_eq b hb];unfold Ieee.Format.order;generalize Ieee.double.read a=da at *;generalize Ieee.double.read b=db at *;cases Ra with
 | nan s f h3 =>
   have e:nanB a=true:=decide_eq_true h3;rw[e];simp[Ieee.Datum.order]
 | inf s h3 h4 =>
   have e:nanB a=false:=decide_eq_false (by omega);cases Rb with
   | nan t f k3 =>
     have e2:nanB b=true:=decide_eq_true k3;rw[e,e2];simp[Ieee.Datum.order]
   | inf t k3 k4 =>
     have e2:nanB b=false:=decide_eq_false (by omega);rw[e,e2,← h4,← k4,h3,k3];cases s<;>cases t<;>simp only[Ieee.Datum.order,Bool.or_self,Bool.false_eq_true,if_true,if_false]<;>decide +kernel
   | num m i t k1 k2 k3 k4 =>
     have e2:nanB b=false:=decide_eq_false (by omega);rw[e,e2,← h4,← k4,h3];generalize b%9223372036854775808=rb at *
     cases s<;>cases t<;>simp only[Ieee.Datum.order,Bool.or_self,Bool.false_eq_true,if_true,if_false]<;>refine congrArg some (Eq.symm ?_) <;>
      first
      | exact Int.compare_eq_lt.2 (by omega)
      | exact Int.compare_eq_gt.2 (by omega)
 | num m i s h1 h2 h3 h4 =>
   have e:nanB a=false:=decide_eq_false (by omega);cases Rb with
   | nan t f k3 =>
     have e2:nanB b=true:=decide_eq_true k3;rw[e,e2];simp[Ieee.Datum.order]
   | inf t k3 k4 =>
     have e2:nanB b=false:=decide_eq_false (by omega);rw[e,e2,← h4,← k4,k3];generalize a%9223372036854775808=ra at *
     cases s<;>cases t<;>simp only[Ieee.Datum.order,Bool.or_self,Bool.false_eq_true,if_true,if_false]<;>refine congrArg some (Eq.symm ?_) <;>
      first
      | exact Int.compare_eq_lt.2 (by omega)
      | exact Int.compare_eq_gt.2 (by omega)
   | num n j t k1 k2 k3 k4 =>
     have e2:nanB b=false:=decide_eq_false (by omega);rw[e,e2,← h4,← k4];obtain⟨p,hp,pa,pb⟩:=scaled (base:=min i j) (by omega) (by omega) (by omega) h2 k2;have h:=order_num _ _ hp pa pb s t;simp only[Ieee.Datum.order,Ieee.signed,Bool.or_self,Bool.false_eq_true,if_false];rw[← h]
def hw (k:Nat) : Nat:=(1023-k)*4503599627370496
theorem hw_one : hw 1=4602678819172646912:=by decide
theorem hw_lt (k:Nat) : hw k<9223372036854775808:=by unfold hw;omega
theorem hw_word (k:Nat) : hw k<18446744073709551616:=by have:=hw_lt k;omega
theorem hw_sr (k:Nat) : sr (hw k)=(hw k:Int):=by unfold sr;rw[if_pos (hw_lt k)]
theorem hw_nan {k:Nat} : nanB (hw k)=false:=by
 refine decide_eq_false ?_;have:hw k<9218868437227405312:=by unfold hw;omega
 omega
theorem halved : ∀ k<17,Ieee.double.div (hw k) 4611686018427387904=some (hw (k+1)):=by decide +kernel
def LeastHalf (s:Int)(n:Nat) : Prop:=1≤n∧n≤16∧(∀ k,1≤k→k<n→s<hw k)∧(n=16∨(hw n:Int)≤s)
def ProbesOf (b n:Nat) : Prop:=if nanB b then n=4 else LeastHalf (sr b) n
def bitsS (n k:Nat) : Nat:=n*k*3/2
def pagesN (n k:Nat) : Nat:=if 480<bitsS n k then(bitsS n k+479)/480 else 1
def cN (n:Int) : Nat:=if n<0 then 0 else if 10000<n then 10000 else n.toNat
def cK (k:Int) : Nat:=if k<1 then 1 else if 16<k then 16 else k.toNat
def pagesS (n k:Int) : Nat:=pagesN (cN n) (cK k)
theorem cN_le (n:Int) : cN n≤10000:=by unfold cN;split;omega;split<;>omega
theorem cK_le (k:Int) : cK k≤16:=by unfold cK;split;omega;split<;>omega
theorem prod_le {n k m l:Nat}(h:n≤m)(h2:k≤l) : n*k≤m*l:=Nat.mul_le_mul h h2
def Words (l:List Nat) : Prop:=∀ x∈l,x<18446744073709551616
end
end Go.Proofs.YtokbfellcadkpaaGreat

import Derived.Test.YtokbfellcadkpaaGreatPp03
import Derived.Deep.WholeRow
set_option linter.unusedVariables false
set_option maxRecDepth 100000
set_option maxHeartbeats 9000000
namespace Go.Proofs.YtokbfellcadkpaaGreat
open Tryz
section
open Go.RowKit
theorem Mq(i a b c d:Nat)(g:b<2 ^ i)(f:d<2 ^ i):(2 ^ i*a+b)&&&(2 ^ i*c+d)=2 ^ i*(a&&&c)+(b&&&d):=by
 apply Nat.eq_of_testBit_eq;intro j;rw[Nat.testBit_and,Nat.testBit_two_pow_mul_add a g,Nat.testBit_two_pow_mul_add c f,Nat.testBit_two_pow_mul_add (a&&&c) (Nat.and_lt_two_pow b f)];split<;>rw[Nat.testBit_and]
theorem Mx(i a b c d:Nat)(f:b<2 ^ i)(g:d<2 ^ i):(2 ^ i*a+b)|||(2 ^ i*c+d)=2 ^ i*(a|||c)+(b|||d):=by
 apply Nat.eq_of_testBit_eq;intro j;rw[Nat.testBit_or,Nat.testBit_two_pow_mul_add a f,Nat.testBit_two_pow_mul_add c g,Nat.testBit_two_pow_mul_add (a|||c) (Nat.or_lt_two_pow f g)];split<;>rw[Nat.testBit_or]
theorem V7(x:Nat):x&&&16711935=65536*(x/65536%256)+x%256:=by
 have h:=Mq 16 (x/65536) (x%65536) 255 255 (Nat.mod_lt _ (by decide)) (by decide);have a:(2:Nat) ^ 16*(x/65536)+x%65536=x:=by omega
 have b:(2:Nat) ^ 16*255+255=16711935:=by decide
 rw[a,b,nat_mask8,nat_mask8]at h;rw[h];omega
theorem V8(a b:Nat)(c:b<256):b|||(256*a)=256*a+b:=by
 rw[Nat.or_comm];exact nat_join 8 (256*a) b (by omega) (by omega)
def df(n:Nat):Nat:=16777216*(n%256)+65536*(n/256%256)+256*(n/65536%256)+n/16777216%256
theorem V9(n:Nat):df n<4294967296:=by unfold df;omega
theorem Mz(n:Nat)(d:n<4294967296):be 4 (df n)=(be 4 n).reverse:=by
 have e:un (be 4 n).reverse=df n:=by
  have a:(256:Nat) ^ 1=256:=by decide
  have b:(256:Nat) ^ 2=65536:=by decide
  have c:(256:Nat) ^ 3=16777216:=by decide
  simp only[a,b,c,Nat.pow_zero,Nat.div_one,be,List.reverse_cons,List.reverse_nil,List.nil_append,List.cons_append,un,List.foldl_cons,List.foldl_nil,UInt8.toNat_ofNat'];unfold df;omega
 have h:=mG (be 4 n).reverse;rw[List.length_reverse,jq,e]at h;exact h
theorem Mj(n:Nat)(q:n<4294967296):bits .or .u32 (bits .and .u32 ((n:Int)/256) 16711935) (bits .and .u32 (n:Int) 16711935*256%4294967296) =
  ((16777216*(n/65536%256)+65536*(n/16777216%256)+256*(n%256)+n/256%256:Nat):Int):=by
 have j:(n:Int)/256=((n/256:Nat):Int):=by omega
 have k:bits .and .u32 ((n/256:Nat):Int) 16711935=((n/256&&&16711935:Nat):Int):=u32_and_nat _ _ (by omega) (by decide);have l:bits .and .u32 (n:Int) 16711935=((n&&&16711935:Nat):Int):=u32_and_nat _ _ q (by decide);rw[j,k,l,V7,V7];have g:n/256/65536%256=n/16777216%256:=by omega
 have r:n%256<256:=Nat.mod_lt _ (by decide);have s:n/256%256<256:=Nat.mod_lt _ (by decide);have u:n/65536%256<256:=Nat.mod_lt _ (by decide);have v:n/16777216%256<256:=Nat.mod_lt _ (by decide);rw[g];generalize n%256=a at*;generalize n/256%256=b at*;generalize n/65536%256=c at*;generalize n/16777216%256=d at*;have o:((65536*c+a:Nat):Int)*256%4294967296=((65536*(256*c)+256*a:Nat):Int):=by omega
 rw[o];have p:=u32_or_nat (65536*d+b) (65536*(256*c)+256*a) (by omega) (by omega);rw[p];have f:=Mx 16 d b (256*c) (256*a) (by omega) (by omega);rw[V8 c d (by omega),V8 a b (by omega)]at f;have i:(2:Nat) ^ 16=65536:=by decide
 rw[i]at f;rw[f];omega
theorem Mk(m:Nat)(c:m<4294967296):bits .or .u32 ((m:Int)/65536) ((m:Int)*65536%4294967296)=((m%65536*65536+m/65536:Nat):Int):=by
 have a:(m:Int)/65536=((m/65536:Nat):Int):=by omega
 have b:(m:Int)*65536%4294967296=((m%65536*65536:Nat):Int):=by omega
 rw[a,b,u32_or_nat _ _ (by omega) (by omega),Nat.or_comm];rw[nat_join 16 _ _ (by omega) (by omega)]
theorem Mv(n:Nat)(w:World)(b:n<4294967296):
  Calls prog 216 #[.int .u32 (n:Nat)] w fun e w'=>e = .returned (.int .u32 (df n:Nat))/\w=w':=by
 have a:=qQ (Mj n b);go_enter func216,ntmps216;go_wp2;go_ret;refine⟨mY ?_,rfl⟩;rw[a.out,Mk _ (by omega)];unfold df;omega
theorem My(n:Nat)(w:World)(a:n<4294967296):
  Calls prog 58 #[.int .u64 (df n:Nat),.int .i64 4] w fun e w'=>e = .returned (.string (bs (be 4 n).reverse))/\Below w.heap.size w w':=by
 rw[<-Mz n a];exact gC (df n) 4 w (by omega) (by omega) (by have:=V9 n;omega)
theorem Vq(s:Tw)(w:World)(b:s.size<=maxLen):
  Calls prog 179 #[.string s] w fun e w'=>e = .returned (.string (bs (yQ s.data.toList)))/\Below w.heap.size w w':=by
 have c:=qQ (fun w=>Lj s w b);have a:=KT s.data.toList;unfold yQ;generalize lI s.data.toList=n at*;have d:=qQ (fun w=>Mv n w a);have f:=qQ (fun w=>My n w a);have i:=V9 n;generalize df n=m at*;generalize bs (be 4 n).reverse=t at*;unfold maxLen at b;go_enter func179,ntmps179;go_wp2_with fail;refine(c.out _).mono ?_;rintro e w'⟨rfl,rfl⟩;go_wp2_with fail;refine(d.out _).mono ?_;rintro e w'⟨rfl,rfl⟩;go_wp2_with fail;refine(f.out _).mono ?_;rintro e w'⟨rfl,g⟩;go_wp2;go_ret;exact⟨rfl,g⟩
def vE(s:Tw):Tw:=s++bs (yQ s.data.toList)
theorem Mu(s:Tw)(h:s.size+4<=maxLen)(l:List UInt8)(a:l.length=4)(w:World):(Op.stringOp .add s (bs l)).run prog w = .ok (.string (s++bs l)) w :=
 run_string_add_sum (P:=prog) (w:=w) s (bs l) (by rw[ji,a];exact h)
theorem nS(s:Tw)(w:World)(a:s.size+4<=maxLen):
  Calls prog 124 #[.string s] w fun e w'=>e = .returned (.string (vE s))/\Below w.heap.size w w':=by
 have b:=qQ (fun w=>Vq s w (by omega));have d:=Mu s a _ (nF s.data.toList);unfold vE;generalize yQ s.data.toList=t at*;unfold maxLen at a;go_enter func124,ntmps124;go_wp2_with fail;refine(b.out _).mono ?_;rintro e w'⟨rfl,c⟩;go_wp2;go_ret;exact⟨rfl,c⟩
def vt(s:Tw):Bool:=decide (4<=s.size/\s.extract (s.size-4) s.size=bs (yQ (s.extract 0 (s.size-4)).data.toList))
def opA(s:Tw):Tw:=if vt s=true then s.extract 0 (s.size-4) else ByteArray.empty
theorem Vx{a b:Tw}(h:a=b):(a.toList==b.toList)=true:=by rw[h,beq_iff_eq]
theorem X6{a b:Tw}(h:¬a=b):(a.toList==b.toList)=false:=by
 rw[qv];intro x;rw[Lib.toList_data,Lib.toList_data]at x;exact h (ByteArray.ext (Array.toList_inj.1 x))
theorem Mg(s:Tw)(w:World)(i:s.size<=maxLen)(k:4<=s.size)(T:Tw)
  (c:∀W,Below w.heap.size w W->Calls prog 179 #[.string (s.extract 0 (s.size-4))] W fun e w'=>e = .returned (.string T)/\Below w.heap.size w w'):
  Calls prog 151 #[.string s] w fun e w'=>e = .returned (.tuple #[.string (if s.extract (s.size-4) s.size=T then s.extract 0 (s.size-4) else ByteArray.empty),.bool (decide (s.extract (s.size-4) s.size=T))])/\Below w.heap.size w w':=by
 have b:=qQ c;clear c;unfold maxLen at i;have j:decide ((s.size:Int)-4<0)=false:=by simp;omega
 have l:(0:Int)<=(s.size:Int)-4:=by omega
 have p:(4:Int)<=(s.size:Int):=by omega
 have n:(s.size:Int)-4<=s.size:=by omega
 have o:((s.size:Int)-4).toNat=s.size-4:=by omega
 by_cases a:s.extract (s.size-4) s.size=T
 ·have g:=Vx a.symm;rw[qV a,qA a];have d:=qQ a;clear a;go_enter func151,ntmps151;go_wp2_with fail
  go_region_held3 (fun w'=>Below w.heap.size w w') (first | assumption | exact(Below.refl _ _).drew) ((go_at_call 179;refine(b.out _ (by assumption)).mono ?_;rintro e w'⟨rfl,f⟩))
  go_wp2;go_ret2;exact⟨rfl,‹Below _ _ _›⟩
 ·have g:=X6 (fun h:T=s.extract (s.size-4) s.size=>a h.symm);rw[qZ a,qW a];have d:=qQ a;clear a;go_enter func151,ntmps151;go_wp2_with fail
  go_region_held3 (fun w'=>Below w.heap.size w w') (first | assumption | exact(Below.refl _ _).drew) ((go_at_call 179;refine(b.out _ (by assumption)).mono ?_;rintro e w'⟨rfl,f⟩))
  go_wp2;go_ret2;exact⟨rfl,‹Below _ _ _›⟩
theorem Xq(s:Tw)(w:World)(f:s.size<=maxLen):
  Calls prog 151 #[.string s] w fun e w'=>e = .returned (.tuple #[.string (opA s),.bool (vt s)])/\Below w.heap.size w w':=by
 by_cases c:4<=s.size
 ·have h:=Mg s w f c (bs (yQ (s.extract 0 (s.size-4)).data.toList)) (fun W d=>(Vq _ W (by unfold maxLen at*;rw[qT];omega)).mono fun e w' ⟨i,g⟩=>⟨i,d.trans (g.mono d.size)⟩);have a:vt s=decide (s.extract (s.size-4) s.size=bs (yQ (s.extract 0 (s.size-4)).data.toList)):=by simp[vt,c]
  have b:opA s=if s.extract (s.size-4) s.size=bs (yQ (s.extract 0 (s.size-4)).data.toList) then s.extract 0 (s.size-4) else ByteArray.empty:=by
   unfold opA;rw[a];simp
  rw[a,b];exact h
 ·have a:vt s=false:=by simp[vt,c]
  have b:opA s=ByteArray.empty:=by simp[opA,a]
  rw[a,b];clear a b;unfold maxLen at f;have j:decide ((s.size:Int)-4<0)=true:=by simp;omega
  go_enter func151,ntmps151;go_wp2_with fail;go_quiet (fail);go_wp2;go_ret2;exact⟨rfl,vo (Below.refl _ _) _⟩
end
section
theorem pR(l:List UInt8):(bs l).data.toList=l:=by simp[bs]
theorem yO(s:Tw):s.data.toList.length=s.size:=Array.length_toList
theorem Mb(a b:Tw):(a++b).data.toList=a.data.toList++b.data.toList:=by simp
theorem cd(s:Tw)(a b:Nat):(s.extract a b).data.toList=(s.data.toList.drop a).take (b-a):=by simp
theorem yt(s:Tw)(a b:Nat):s.extract a b=bs ((s.data.toList.drop a).take (b-a)):=by rw[<-cd,bG]
theorem pS(s:Tw):(vE s).data.toList=s.data.toList++yQ s.data.toList:=by simp[vE,bs]
theorem lT(s:Tw):(vE s).size=s.size+4:=by rw[<-yO,pS,qI,nF,yO]
theorem Vz(s:Tw):vt (vE s)=true:=by
 unfold vt;refine qA ⟨by rw[lT];omega, ?_⟩
 have a:(vE s).extract 0 ((vE s).size-4)=s:=by
  rw[yt,lT,pS];have:s.data.toList.length=s.size:=yO s;rw[List.drop_zero,show s.size+4-4-0=s.data.toList.length by omega,List.take_left,bG]
 rw[a,yt,lT,pS];have:s.data.toList.length=s.size:=yO s;rw[show s.size+4-4=s.data.toList.length by omega,List.drop_left,qd (by rw[nF];omega)]
theorem Vj{s:Tw}(h:vt s=true):vS 4294967295 s.data.toList=stk 32 4294967295:=by
 obtain⟨d,c⟩:=of_decide_eq_true h;have f:=yO s;have a:=congrArg (fun s:Tw=>s.data.toList) c;simp only[cd,pR]at a;rw[List.drop_zero,qd (by rw[List.length_drop];omega)]at a;have b:=(F7 (s.data.toList.take (s.size-4-0)) (s.data.toList.drop (s.size-4)) (by rw[List.length_drop];omega)).1 a;rw[Nat.sub_zero,ql]at b;exact b
theorem Vk{s t:Tw}(c:vt s=true)(d:vt t=true)(k:Nat)(a:s.size=t.size)(b:∀j,j<k∨k+4<=j->s.data.toList[j]? = t.data.toList[j]?):s=t:=by
 have h:=Lg (x:=4294967295) (by decide) s.data.toList t.data.toList k (by rw[yO,yO,a]) b (by rw[Vj c,Vj d]);rw[<-bG s,h,bG]
def gD(n p:Int):Bool:=decide (60<=n/\n<=120000/\n%60=0/\1<=p/\p<=16)
theorem sa{n p:Int}:gD n p=true↔60<=n/\n<=120000/\n%60=0/\1<=p/\p<=16:=by unfold gD;exact decide_eq_true_iff
def hdL(n p:Nat):List UInt8:=[98,108,109,UInt8.ofNat p]++(be 4 n++List.replicate 52 0)
theorem Vv(n p:Nat):(hdL n p).length=60:=by simp[hdL,jq]
def hdP(n p:Nat):Tw:=vE (bs (hdL n p))
theorem Vy(n p:Nat):(hdP n p).size=64:=by unfold hdP;rw[lT,ji,Vv]
def pgT(t:Tw)(j:Nat):Tw:=t.extract (64*j) (64*j+64)
def pgW(t:Tw)(j:Nat):Bool:=decide (64*j+64<=t.size)&&vt (pgT t j)
theorem Mc(t:Tw)(j:Nat):(pgT t j).data.toList=(t.data.toList.drop (64*j)).take 64:=by unfold pgT;rw[cd,show 64*j+64-64*j=64 by omega]
theorem Md(t:Tw)(j i:Nat)(hi:i<64):(pgT t j).data.toList[i]? = t.data.toList[64*j+i]? := by rw[Mc,List.getElem?_take,qV hi,List.getElem?_drop]
theorem Xx{t:Tw}{j:Nat}(h:64*j+64<=t.size):(pgT t j).size=64:=by unfold pgT;rw[qT];omega
theorem Xz{t:Tw}{j:Nat}:pgW t j=true↔64*j+64<=t.size/\vt (pgT t j)=true:=by unfold pgW;rw[Bool.and_eq_true,decide_eq_true_iff]
def hpT(t:Tw):Nat:=(t.data.toList.getD 3 0).toNat
def hnT(t:Tw):Nat:=jR (t.extract 4 8)
def yq(t:Tw):Bool:=decide (64<=t.size)&&(gD (hnT t) (hpT t)&&decide (t.extract 0 64=hdP (hnT t) (hpT t)))
theorem Xj{t:Tw}:yq t=true↔64<=t.size/\gD (hnT t) (hpT t)=true/\t.extract 0 64=hdP (hnT t) (hpT t):=by unfold yq;rw[Bool.and_eq_true,Bool.and_eq_true,decide_eq_true_iff,decide_eq_true_iff]
theorem Xk{t:Tw}(h:t.size<64):yq t=false:=by
 unfold yq;rw[qW (by omega),Bool.false_and]
theorem Mf{t:Tw}(h:gD (hnT t) (hpT t)=false):yq t=false:=by
 unfold yq;rw[h,Bool.false_and,Bool.and_false]
theorem Mh{t:Tw}(h:¬t.extract 0 64=hdP (hnT t) (hpT t)):yq t=false:=by
 unfold yq;rw[qW h,Bool.and_false,Bool.and_false]
def byT(t:Tw)(k:Nat):UInt8:=t.data.toList.getD (64*(k/480+1)+k/8%60) 0
def Vu(t:Tw)(k:Nat):Bool:=(byT t k).toNat.testBit (k%8)
def gE(t:Tw)(k:Nat):Bool:=pgW t (k/480+1)&&!Vu t k
def uz(t:Tw)(h:Nat):Bool:=!yq t||(ux h (hpT t) ((8*hnT t:Nat):Int)).all fun k=>!gE t k
theorem Vg{t:Tw}(h:yq t=false)(g:Nat):uz t g=true:=by unfold uz;rw[h];rfl
theorem Ml{t:Tw}(h:yq t=true)(g:Nat):uz t g=(ux g (hpT t) ((8*hnT t:Nat):Int)).all fun k=>!gE t k:=by unfold uz;rw[h];rfl
theorem Mm{t:Tw}{g:Nat}(H:∀k∈ux g (hpT t) ((8*hnT t:Nat):Int),gE t k=false):uz t g=true:=by
 unfold uz;rw[Bool.or_eq_true,List.all_eq_true];exact qY fun k a=>by rw[H k a];rfl
theorem Mn{t:Tw}{g k:Nat}(h:yq t=true)(a:k∈ux g (hpT t) ((8*hnT t:Nat):Int))(H:gE t k=true):uz t g=false:=by
 rw[Ml h,List.all_eq_false];exact⟨k,a,by rw[H];decide⟩
def pgs(a:Tw):Nat->Tw
 | 0=>ByteArray.empty
 | k+1=>pgs a k++vE (a.extract (60*k) (60*k+60))
theorem Vb(a:Tw)(k:Nat):pgs a (k+1)=pgs a k++vE (a.extract (60*k) (60*k+60)):=rfl
theorem Xv(a:Tw):∀k,60*k<=a.size->(pgs a k).size=64*k
 | 0,_=>rfl
 | k+1,h=>by rw[Vb,qy,Xv a k (by omega),lT,qT];omega
def fq(a:Tw)(p:Int):Tw:=if gD a.size p then hdP a.size p.toNat++pgs a (a.size/60) else ByteArray.empty
theorem Vc{a:Tw}{p:Int}(h:gD a.size p=false):fq a p=ByteArray.empty:=by unfold fq;rw[h];rfl
theorem Vd{a:Tw}{p:Int}(h:gD a.size p=true):fq a p=hdP a.size p.toNat++pgs a (a.size/60):=by unfold fq;rw[h];rfl
theorem Mp{a:Tw}{p:Int}(h:gD a.size p=true):(fq a p).size=64*(a.size/60+1):=by
 rw[Vd h,qy,Vy,Xv a _ (by omega)];omega
theorem Mr(l:List Nat)(p:Int)(n:Nat)(a:0<n)(b:n<=125000):(bs (dG l p ((8*n:Nat):Int))).size=n:=by
 rw[ji,Kb (by unfold lN;exact qA (by omega)),Kg];omega
end
section
open Go.RowKit
theorem pT(s:Tw):s.data.toList.length=s.size:=Array.length_toList
theorem dbs(l:List UInt8):(bs l).data.toList=l:=by simp[bs]
theorem Vf(s:Tw):bs s.data.toList=s:=by
 apply ByteArray.ext;simp[bs]
def de: Nat->Nat->List UInt8
 | 0,_=>[]
 | k+1,n=>UInt8.ofNat (48+n/10 ^ k%10)::de k n
theorem nT: ∀k n:Nat,(de k n).length=k
 | 0,_=>rfl
 | k+1,n=>by simp[de,nT k n]
def isD(c:UInt8):Bool:=decide (48<=c.toNat/\c.toNat<=57)
def dv(l:List UInt8):Nat:=l.foldl (fun a c=>a*10+(c.toNat-48)) 0
theorem Ms(l:List UInt8)(c:UInt8):dv (l++[c])=dv l*10+(c.toNat-48):=by simp[dv]
theorem Xy: ∀(l:List UInt8) (a:Nat),l.foldl (fun a c=>a*10+(c.toNat-48)) a=a*10 ^ l.length+dv l
 | [],a=>by simp[dv]
 | c::l,a=>by
   have h1:=Xy l (a*10+(c.toNat-48));have b:=Xy l (0*10+(c.toNat-48));simp only[dv,List.foldl_cons,List.length_cons]at*;rw[h1,b,Nat.pow_succ];simp only[Nat.add_mul,Nat.zero_mul,Nat.zero_add];rw[Nat.mul_assoc,Nat.mul_comm 10];omega
theorem Xu(c:UInt8)(l:List UInt8):dv (c::l)=(c.toNat-48)*10 ^ l.length+dv l:=by
 have h:=Xy l (0*10+(c.toNat-48));simp only[dv,List.foldl_cons]at*;rw[h];simp
theorem nz(d:Nat)(h:d<10):(UInt8.ofNat (48+d)).toNat=48+d:=by rw[UInt8.toNat_ofNat'];omega
theorem se: ∀ {l:List UInt8},(∀c∈l,isD c=true)->dv l<10 ^ l.length
 | [],_=>by decide
 | c::l,h=>by
   have h1:=se (fun x b=>h x (qE _ b));have a:=h c (qD ..);simp only[isD,decide_eq_true_eq]at a;rw[Xu,qk,Nat.pow_succ];have:(c.toNat-48)*10 ^ l.length<=9*10 ^ l.length:=Nat.mul_le_mul_right _ (by omega);omega
theorem Xg: ∀k n:Nat,dv (de k n)=n%10 ^ k
 | 0,n=>by rw[Nat.pow_zero,Nat.mod_one];rfl
 | k+1,n=>by
   have e:(10:Nat) ^ (k+1)=10 ^ k*10:=Nat.pow_succ ..;rw[de,Xu,nT,Xg k n,nz _ (Nat.mod_lt _ (by decide)),e,Nat.mod_mul,Nat.add_sub_cancel_left,Nat.mul_comm,Nat.add_comm]
theorem Vh: ∀(k n:Nat) (c:UInt8),c∈de k n->isD c=true
 | 0,n,c,h=>by cases h
 | k+1,n,c,h=>by
   rw[de]at h;rcases qL.1 h with rfl|h
   ·have:=Nat.mod_lt (n/10 ^ k) (show 0<10 by decide);unfold isD;rw[nz _ this];exact qA (by omega)
   ·exact Vh k n c h
theorem Mt: ∀ {l:List UInt8},(∀c∈l,isD c=true)->de l.length (dv l)=l:=by
 intro l a
 suffices h:∀(l:List UInt8) (m:Nat),(∀c∈l,isD c=true)->de l.length (m*10 ^ l.length+dv l)=l by
  have:=h l 0 a;simpa using this
 intro l
 induction l with
 | nil=>intro m _;rfl
 | cons c l j =>
   intro m a;have g:=se (l:=l) (fun x b=>a x (qE _ b));have f:=a c (qD ..);simp only[isD,decide_eq_true_eq]at f;have i:0<10 ^ l.length:=Nat.pow_pos (by decide);rw[qk,de,Xu]
   have e:m*10 ^ (l.length+1)+((c.toNat-48)*10 ^ l.length+dv l)=(m*10+(c.toNat-48))*10 ^ l.length+dv l:=by
    rw[Nat.pow_succ,Nat.add_mul,Nat.mul_assoc m 10,Nat.mul_comm 10];omega
   rw[e,j _ (fun x b=>a x (qE _ b))]
   have d:((m*10+(c.toNat-48))*10 ^ l.length+dv l)/10 ^ l.length=m*10+(c.toNat-48):=by
    rw[Nat.mul_comm,Nat.mul_add_div i,Nat.div_eq_of_lt g,Nat.add_zero]
   rw[d];congr 1;apply UInt8.toNat_inj.1;rw[show(m*10+(c.toNat-48))%10=c.toNat-48 by omega,nz _ (by omega)];omega
theorem Vl: ∀k a b:Nat,Op.bytesLess (de k a) (de k b)=decide (a%10 ^ k<b%10 ^ k)
 | 0,a,b=>by simp[de,Op.bytesLess,Nat.mod_one]
 | k+1,a,b=>by
   have hk:=Vl k a b;have g:=Nat.mod_lt (a/10 ^ k) (show 0<10 by decide);have i:=Nat.mod_lt (b/10 ^ k) (show 0<10 by decide);have f:0<10 ^ k:=Nat.pow_pos (by decide);have o:=Nat.mod_lt a f;have r:=Nat.mod_lt b f;rw[de,de,Op.bytesLess,hk,Nat.pow_succ,Nat.mod_mul,Nat.mod_mul];have l:=nz _ g;have n:=nz _ i;generalize a/10 ^ k%10=x at*;generalize b/10 ^ k%10=y at*;generalize a%10 ^ k=p at*;generalize b%10 ^ k=q at*;generalize 10 ^ k=P at*;rw[Bool.eq_iff_iff];simp only[Bool.or_eq_true,Bool.and_eq_true,decide_eq_true_eq,beq_iff_eq];rcases Nat.lt_trichotomy x y with h|h|h
   ·have c:(x+1)*P<=y*P:=Nat.mul_le_mul_right _ h;rw[Nat.add_mul,Nat.mul_comm x,Nat.mul_comm y]at c;have d:UInt8.ofNat (48+x)<UInt8.ofNat (48+y):=UInt8.lt_iff_toNat_lt.2 (by omega);simp only[d,true_or,true_iff];omega
   ·subst h;simp
   ·have c:(y+1)*P<=x*P:=Nat.mul_le_mul_right _ h;rw[Nat.add_mul,Nat.mul_comm x,Nat.mul_comm y]at c;have d:¬UInt8.ofNat (48+x)<UInt8.ofNat (48+y):=fun e=>by have:=UInt8.lt_iff_toNat_lt.1 e;omega
    have j:¬UInt8.ofNat (48+x)=UInt8.ofNat (48+y):=fun e=>by have:=congrArg UInt8.toNat e;omega
    simp only[d,j,false_and,or_false,false_iff];omega
def nmS(c:UInt8)(n:Int):Tw:=if 0<=n/\n<=999999 then bs (c::de 6 n.toNat) else ByteArray.empty
theorem Ma{c:UInt8}{n:Int}(h:¬(0<=n/\n<=999999)):nmS c n=ByteArray.empty:=by unfold nmS;rw[qZ h]
theorem dh{c:UInt8}{n:Nat}(h:n<=999999):nmS c (n:Nat)=bs (c::de 6 n):=by unfold nmS;rw[qV (by omega),qh]
def isK(c:UInt8):Bool:=c==99||c==116||c==98
def ku(s:Tw):Bool:=match s.data.toList with
 | []=>false
 | c::l=>decide (l.length=6)&&isK c&&l.all isD
def npK(s:Tw):Nat:=if ku s=true then(s.data.toList.headD 0).toNat else 0
def npN(s:Tw):Nat:=if ku s=true then dv s.data.toList.tail else 0
theorem p6{s:Tw}(h:ku s=false):npK s=0/\npN s=0:=by simp[npK,npN,h]
theorem Xb{s:Tw}(h:ku s=true):∃c l,s=bs (c::l)/\l.length=6/\isK c=true/\(∀x∈l,isD x=true)/\npK s=c.toNat/\npN s=dv l:=by
 have b:=h;unfold ku at h;cases a:s.data.toList with
 | nil=>rw[a]at h;cases h
 | cons c l =>
   rw[a]at h;simp only[Bool.and_eq_true,decide_eq_true_eq,List.all_eq_true]at h;refine⟨c,l,by rw[<-a,Vf],h.1.1,h.1.2,h.2, ?_, ?_⟩
   ·unfold npK;rw[qV b,a];rfl
   ·unfold npN;rw[qV b,a];rfl
theorem Vm(c:UInt8)(l:List UInt8)(d:l.length=6)(a:isK c=true)(b:∀x∈l,isD x=true):ku (bs (c::l))=true/\npK (bs (c::l))=c.toNat/\npN (bs (c::l))=dv l:=by
 have h:ku (bs (c::l))=true:=by
  unfold ku;rw[dbs];simp only[Bool.and_eq_true,decide_eq_true_eq,List.all_eq_true];exact⟨⟨d,a⟩,b⟩
 refine⟨h, ?_, ?_⟩
 ·unfold npK;rw[qV h,dbs];rfl
 ·unfold npN;rw[qV h,dbs];rfl
theorem si{s:Tw}(h:∀c l,s.data.toList=c::l->¬(l.length=6/\isK c=true/\∀x∈l,isD x=true)):ku s=false:=by
 cases e:ku s with
 | false=>rfl
 | true =>
   obtain⟨c,l,f,a,b,d,_⟩:=Xb e;exact absurd ⟨a,b,d⟩ (h c l (by rw[f,dbs]))
theorem Xc{c:UInt8}{n:Nat}(f:isK c=true)(h:n<=999999):ku (nmS c (n:Nat))=true/\npK (nmS c (n:Nat))=c.toNat/\npN (nmS c (n:Nat))=n:=by
 rw[dh h];obtain⟨a,b,d⟩:=Vm c (de 6 n) (nT _ _) f (fun x g=>Vh _ _ _ g);refine⟨a,b, ?_⟩;rw[d,Xg];exact Nat.mod_eq_of_lt (by omega)
theorem Vn{s:Tw}(h:ku s=true):npN s<=999999/\(npK s=99/\nmS 99 (npN s:Nat)=s∨npK s=116/\nmS 116 (npN s:Nat)=s∨npK s=98/\nmS 98 (npN s:Nat)=s):=by
 obtain⟨c,l,o,i,d,f,a,k⟩:=Xb h;have n:=se f;rw[i]at n;have j:npN s<=999999:=by rw[k];omega
 have g:=Mt f;rw[i]at g;have b:nmS c (npN s:Nat)=s:=by rw[dh j,k,g,o]
 refine⟨j, ?_⟩;simp only[isK,Bool.or_eq_true,beq_iff_eq]at d;rcases d with(rfl|rfl)|rfl
 ·exact qX ⟨a,b⟩
 ·exact qY (qX ⟨a,b⟩)
 ·exact qY (qY ⟨a,b⟩)
theorem nj{c:UInt8}{n:Nat}(h:n<=999999):(nmS c (n:Nat)).size=7:=by rw[dh h,ji,qk,nT]
theorem Me(c:UInt8){m n:Nat}(a:m<=999999)(b:n<=999999):Op.bytesLess (nmS c (m:Nat)).toList (nmS c (n:Nat)).toList=decide ((m:Int)<(n:Int)):=by
 rw[dh a,dh b,Lib.toList_data,Lib.toList_data,dbs,dbs,Op.bytesLess,Vl,Nat.mod_eq_of_lt (show m<10 ^ 6 by omega),Nat.mod_eq_of_lt (show n<10 ^ 6 by omega)];have:¬c<c:=fun h=>by have:=UInt8.lt_iff_toNat_lt.1 h;omega
 rw[Bool.eq_iff_iff];simp[this]
theorem Mi(c:UInt8){m n:Nat}(b:m<=999999)(d:n<=999999):((nmS c (m:Nat)).toList==(nmS c (n:Nat)).toList)=((m:Int)==(n:Int)):=by
 rw[Bool.eq_iff_iff,beq_iff_eq,beq_iff_eq];constructor
 ·intro h;rw[Lib.toList_data,Lib.toList_data,dh b,dh d,dbs,dbs]at h;have a:=congrArg (fun l=>dv l.tail) h;simp only[List.tail_cons,Xg]at a;omega
 ·intro h;have:m=n:=by omega
  rw[this]
theorem Mo{s:Tw}{c:UInt8}{l:List UInt8}(h:s.data.toList=c::l)(j:Nat)(d:j<l.length)(a:j+1<s.size):s[j+1]'a=l[j]:=by
 have b:s.data.toList[j+1]'(by rw[pT];exact a)=l[j]:=by simp[h]
 exact b
theorem Vp{s:Tw}{c:UInt8}{l:List UInt8}(h:s.data.toList=c::l)(a:0<s.size):s[0]'a=c:=by
 have b:s.data.toList[0]'(by rw[pT];exact a)=c:=by simp[h]
 exact b
theorem Mw{l:List UInt8}{j:Nat}(a:j<l.length):dv (l.take (j+1))=dv (l.take j)*10+(l[j].toNat-48):=by
 rw[List.take_add_one,qC a];exact Ms _ _
structure jm: Prop where
 chunk:∀(n:Int) (w:World),(Lit.int .i64 n).wf=true->Calls prog 83 #[.int .i64 n] w fun e w'=>e = .returned (.string (nmS 99 n))/\Below w.heap.size w w'
 table:∀(n:Int) (w:World),(Lit.int .i64 n).wf=true->Calls prog 110 #[.int .i64 n] w fun e w'=>e = .returned (.string (nmS 116 n))/\Below w.heap.size w w'
 xr:∀(n:Int) (w:World),(Lit.int .i64 n).wf=true->Calls prog 111 #[.int .i64 n] w fun e w'=>e = .returned (.string (nmS 98 n))/\Below w.heap.size w w'
 parse:∀(s:Tw) (w:World),s.size<=maxLen->Calls prog 49 #[.string s] w fun e w'=>e = .returned (.tuple #[.int .u8 (npK s:Nat),.int .i64 (npN s:Nat),.bool (ku s)])/\Below w.heap.size w w'
end
section
open Go.RowKit
open Go.Maps (Keyed)
def pgC(l:List UInt8):Array Value:=(l.map fun c=>Value.int .u8 (c.toNat:Int)).toArray
def pgV(l:List UInt8):Value:=.agg (pgC l)
theorem p7(l:List UInt8):(pgC l).size=l.length:=by unfold pgC;rw[List.size_toArray,qj]
theorem NQ(l:List UInt8){i:Nat}(hi:i<l.length):(pgC l)[i]? = some (.int .u8 ((l.getD i 0).toNat:Int)):=by
 unfold pgC;rw[List.getElem?_toArray,qu,qz,qC hi];rfl
theorem p8(l:List UInt8):(pgC l).all (·.oneCell')=true:=by
 unfold pgC;rw[List.all_toArray,List.all_eq_true];intro x a;obtain⟨c,_,rfl⟩:=qN.1 a;rfl
def dC: Value->Option UInt8
 | .int .u8 n=>if n=((UInt8.ofNat n.toNat).toNat:Int) then some (UInt8.ofNat n.toNat) else none
 | _=>none
theorem NX(c:UInt8):dC (.int .u8 (c.toNat:Int))=some c:=by simp[dC]
theorem NZ{v:Value}{c:UInt8}(h:dC v=some c):v = .int .u8 (c.toNat:Int):=by
 unfold dC at h;split at h
 ·rename_i n;split at h
  ·rename_i e;injection h with h;rw[<-h,<-e]
  ·cases h
 ·cases h
def pgR: Value->Option (DataW Unit × List MemPlace)
 | .agg cs=>(cs.toList.mapM dC).map fun l=>(.lit (.string l),[])
 | _=>none
theorem Vr: ∀l:List UInt8,(l.map fun c=>Value.int .u8 (c.toNat:Int)).mapM dC=some l
 | []=>rfl
 | c::l=>by rw[List.map_cons,List.mapM_cons,NX,Vr l];rfl
theorem Vs: ∀ {cs:List Value} {l:List UInt8},cs.mapM dC=some l->cs=l.map fun c=>Value.int .u8 (c.toNat:Int)
 | [],l,h=>by rw[List.mapM_nil]at h;injection h with h;rw[<-h];rfl
 | v::cs,l,h=>by
   rw[List.mapM_cons]at h;cases e1:dC v with
   | none=>rw[e1]at h;cases h
   | some c =>
     cases e2:cs.mapM dC with
     | none=>rw[e1,e2]at h;cases h
     | some m =>
       rw[e1,e2]at h;injection h with h;rw[<-h,List.map_cons,<-Vs e2,<-NZ e1]
theorem NJ(l:List UInt8):pgR (pgV l)=some (.lit (.string l),[]):=by
 show((pgC l).toList.mapM dC).map _=_;unfold pgC;rw[List.toList_toArray,Vr];rfl
theorem NK{v:Value}{y:DataW Unit × List MemPlace}(h:pgR v=some y):∃l,v=pgV l/\y=(.lit (.string l),[]):=by
 unfold pgR at h;split at h
 ·rename_i cs;cases e:cs.toList.mapM dC with
  | none=>rw[e]at h;cases h
  | some l =>
    rw[e]at h;injection h with h;refine⟨l, ?_,h.symm⟩;unfold pgV pgC;rw[<-Vs e,Array.toArray_toList]
 ·cases h
def mH(k:Nat):Lit:=.int .i64 (k:Int)
theorem Vt{a b:Nat}(h:mH a=mH b):a=b:=by unfold mH at h;injection h with _ h;omega
theorem Va{k:Nat}(h:k<=1000000):keyOf prog 3 (.int .i64 (k:Int))=some (mH k):=Maps.keyOf_int_mk Tryz.underlying3 (WalkArith.wf_i64 (by omega))
theorem NV(k:Nat):WideAt.IsKeyLit (mH k):=trivial
theorem Ve: Keyed prog 3:=Maps.int_keyed Tryz.underlying3
theorem Vi(w:World):(zeroValue 308).run prog w = .ok (pgV (List.replicate 60 0)) w:=by kernel_rfl
theorem so: (prog.info? 308).map (·.size)=some 60:=by kernel_rfl
def pgB(t:Tw)(k:Nat):List UInt8:=(pgT t (k+1)).data.toList.take 60
theorem Vo{t:Tw}{k:Nat}(h:pgW t (k+1)=true):(pgB t k).length=60:=by
 unfold pgB;rw[qS,yO,Xx (Xz.1 h).1];decide
theorem NY{t:Tw}{k:Nat}(x:Nat)(b:k=x/480):(pgB t k).getD (x/8%60) 0=byT t x:=by
 have a:x/8%60<60:=Nat.mod_lt _ (by decide);unfold pgB byT;rw[qz,qz,List.getElem?_take,qV a,Md _ _ _ (by omega),b]
structure NU(D0:DataW Unit)(t:Tw)(m:Nat):Prop where
 yes:∀k,k<m->pgW t (k+1)=true->∀zd,D0.atKey (mH k) zd = .lit (.string (pgB t k))
 no:∀k,m<=k∨pgW t (k+1)=false->Maps.has D0 (mH k)=false
def vh(w:World)(mb:Nat)(t:Tw)(m:Nat):Prop:=∃a,w.ownsMap prog 3 pgR mb m a/\Maps.IsMap a/\NU a t m
section
variable {w w':World}{mb m:Nat}{t:Tw}
theorem vh.lt(h:vh w mb t m):mb<w.heap.size:=by
 obtain⟨b,a,c⟩:=h;exact a.lt
theorem vh.of_block(h:vh w mb t m)(e:w'.heap[mb]? = w.heap[mb]?):vh w' mb t m:=by
 obtain⟨a,⟨c,b,f,r⟩,d⟩:=h;exact⟨a,⟨c,b,e.trans f,r⟩,d⟩
theorem vh.below(h:vh w mb t m)(a:Below w.heap.size w w'):vh w' mb t m:=h.of_block (a.block _ h.lt)
theorem vh.new(w:World)(t:Tw):vh (w.alloc (.map #[] 0)) w.heap.size t 0 :=
 ⟨.map [],World.ownsMap_made w _ _ _,⟨[],rfl⟩,fun k a=>by omega,fun k _=>rfl⟩
theorem vh.skip(h:vh w mb t m)(g:pgW t (m+1)=false):vh w mb t (m+1):=by
 obtain⟨c,d,f,b⟩:=h;refine⟨c,d.mono (Nat.le_succ m),f,fun k a hw=>?_,fun k a=>?_⟩
 ·by_cases e:k=m
  ·rw[e,g]at hw;cases hw
  ·exact b.yes k (by omega) hw
 ·refine b.no k ?_;rcases a with a|a
  ·exact qX (by omega)
  ·exact qY a
theorem vh.look(h:vh w mb t m){k:Nat}(r:k<=1000000):
  (Instr.lookup 215 (.map (some mb)) (.int .i64 (k:Int)) true).run prog w = .ok (.tuple #[pgV (if k<m/\pgW t (k+1)=true then pgB t k else List.replicate 60 0),.bool (decide (k<m)&&pgW t (k+1))]) w:=by
 obtain⟨s,⟨z,u,q,F,_,rfl⟩,A,g⟩:=h;rcases Maps.fit_look true Ve Tryz.underlying215 (Vi w) q F (Va r) with⟨i,_,d⟩|⟨v,y,_,_,i,p,d,_⟩
 ·have n:¬(k<m/\pgW t (k+1)=true):=fun f=>by
   have a:=g.yes k f.1 f.2;have j:=a (.lit (.int .i64 0));rw[d]at j;cases j
  rw[i,qZ n]
  have:(decide (k<m)&&pgW t (k+1))=false:=by
   by_cases c:k<m
   ·rw[qA c,Bool.true_and];exact Bool.eq_false_iff.2 (fun e=>n ⟨c,e⟩)
   ·rw[qW c,Bool.false_and]
  rw[this];rfl
 ·have b:k<m/\pgW t (k+1)=true:=by
   refine Classical.byContradiction fun f=>?_
   have a:=g.no k (by
    by_cases c:k<m
    ·exact qY (Bool.eq_false_iff.2 (fun e=>f ⟨c,e⟩))
    ·exact qX (by omega))
   rw[Maps.has_true_of_atKey d]at a;cases a
  have a:=g.yes k b.1 b.2 (.lit (.int .i64 0));rw[d]at a;obtain⟨l,o,rfl⟩:=NK p;simp only[DataW.lit.injEq,Lit.string.injEq]at a;rw[i,qV b,qA b.1,b.2,o,a];rfl
theorem vh.put(h:vh w mb t m)(l:m<=1000000)(hw:pgW t (m+1)=true):∃w',(Instr.mapUpdate 215 (.map (some mb)) (.int .i64 (m:Int)) (pgV (pgB t m))).run prog w = .ok () w'/\vh w' mb t (m+1)/\w.grownBy w' (some mb):=by
 obtain⟨p,g,c,d⟩:=h;obtain⟨w',o,n,i⟩:=g.update Ve Tryz.underlying215 (by unfold maxLen;omega) (Va l) (NJ (pgB t m));refine⟨w',o,⟨_,n,c.put _ _,fun k a j=>?_,fun k a=>?_⟩,i⟩
 ·intro f;by_cases e:k=m
  ·subst e;exact Maps.atKey_put_same c (NV k) _ f
  ·rw[Maps.atKey_put_other (fun b=>e (Vt b))];exact d.yes k (by omega) j f
 ·by_cases e:k=m
  ·subst e;rcases a with a|a
   ·omega
   ·rw[hw]at a;cases a
  ·rw[Maps.has_put_other (fun b=>e (Vt b))];refine d.no k ?_;rcases a with a|a
   ·exact qX (by omega)
   ·exact qY a
end
def uj(w:World)(f:Value)(t:Tw):Prop :=
 (yq t=false/\f = .agg #[.int .i64 0,.int .i64 0,.map none]) ∨
 (yq t=true/\∃mb,f = .agg #[.int .i64 (hpT t:Nat),.int .i64 (hnT t:Nat),.map (some mb)]/\vh w mb t (hnT t/60))
theorem uj.below{w w':World}{f:Value}{t:Tw}(h:uj w f t)(a:Below w.heap.size w w'):uj w' f t:=by
 rcases h with h|⟨h,mb,e,b⟩
 ·exact qX h
 ·exact qY ⟨h,mb,e,b.below a⟩
theorem uj.none(w:World):uj w (.agg #[.int .i64 0,.int .i64 0,.map none]) ByteArray.empty:=qX ⟨Xk (by decide),rfl⟩
end
section
open Go.RowKit
theorem NG(c k:Nat)(g:c<256):(bits .and .u8 ((c:Int)/2 ^ k) 1==0) = !c.testBit k:=by
 have d:(c:Int)/2 ^ k=((c/2 ^ k:Nat):Int):=by simp
 rw[d,show(1:Int)=((1:Nat):Int) from rfl,u8_and_nat _ _ (Nat.lt_of_le_of_lt (Nat.div_le_self _ _) g) (by decide),Nat.and_one_is_mod];have b:=Hx (c:=c) (k:=k);cases a:c.testBit k with
 | true=>rw[b.2 a];rfl
 | false =>
   have i:¬c/2 ^ k%2=1:=fun e=>by rw[b.1 e]at a;cases a
   have f:c/2 ^ k%2=0:=(by omega);rw[f];rfl
theorem NW(mb x:Nat)(p n:Int)(C:Array Value)(q r:Bool)(c:Nat)(w:World)(L:x<=10000000)(u:C.size=60)(k:C.all (·.oneCell')=true)(F:c<256)
  (l:∀W,Below w.heap.size w W->(Instr.lookup 215 (.map (some mb)) (.int .i64 ((x:Int)/480)) true).run prog W = .ok (.tuple #[.agg C,.bool q]) W)
  (G:(q=false/\r=false)∨(q=true/\C[x%480/8]? = some (.int .u8 (c:Nat))/\r = !c.testBit (x%8))):
  Calls prog 262 #[.agg #[.int .i64 p,.int .i64 n,.map (some mb)],.int .i64 (x:Nat)] w fun e w'=>e = .returned (.bool r)/\Below w.heap.size w w':=by
 have a:Below w.heap.size w (w.alloc (.cells #[.int .i64 p,.int .i64 n,.map (some mb)] 217)):=(Below.refl _ _).alloc (qK _) _;have D:=l _ a;have c0:(w.alloc (.cells #[.int .i64 p,.int .i64 n,.map (some mb)] 217)).cell? ⟨w.heap.size,2,none⟩=some (.map (some mb)):=(jY.new w _ _).cell 2;obtain⟨b,H⟩:∃b,w.alloc (.cells #[.int .i64 p,.int .i64 n,.map (some mb)] 217)=b:=⟨_,rfl⟩
 rw[H]at a D c0;have o:=run_storeCells_new (P:=prog) b 308 (pgC (List.replicate 60 0)) C (by rw[u];exact so) (by rw[u,p7];rfl) k;have j:pgC (List.replicate 60 0)=#[.int .u8 0,.int .u8 0,.int .u8 0,.int .u8 0,.int .u8 0,.int .u8 0,.int .u8 0,.int .u8 0,.int .u8 0,.int .u8 0,.int .u8 0,.int .u8 0,.int .u8 0,.int .u8 0,.int .u8 0,.int .u8 0,.int .u8 0,.int .u8 0,.int .u8 0,.int .u8 0,.int .u8 0,.int .u8 0,.int .u8 0,.int .u8 0,.int .u8 0,.int .u8 0,.int .u8 0,.int .u8 0,.int .u8 0,.int .u8 0,.int .u8 0,.int .u8 0,.int .u8 0,.int .u8 0,.int .u8 0,.int .u8 0,.int .u8 0,.int .u8 0,.int .u8 0,.int .u8 0,.int .u8 0,.int .u8 0,.int .u8 0,.int .u8 0,.int .u8 0,.int .u8 0,.int .u8 0,.int .u8 0,.int .u8 0,.int .u8 0,.int .u8 0,.int .u8 0,.int .u8 0,.int .u8 0,.int .u8 0,.int .u8 0,.int .u8 0,.int .u8 0,.int .u8 0,.int .u8 0]:=by rfl
 rw[j]at o;have g:=fun i v (h:C[i]? = some v)=>((jY.new b 308 C).cell i).trans h
 have d:Below w.heap.size w (b.alloc (.cells C 308)):=a.alloc a.size _;rcases G with⟨rfl,rfl⟩|⟨rfl,z,rfl⟩
 ·have f:=qQ d;clear l g k a d j;go_enter func262,ntmps262;go_wp2;go_ret;exact⟨rfl,f.out⟩
 ·have s:=g _ _ z;obtain⟨B,I⟩:∃B,b.alloc (.cells C 308)=B:=⟨_,rfl⟩
  rw[I]at d o s;have f:=qQ d;obtain⟨i,A⟩:∃i:Nat,x%480/8=i:=⟨_,rfl⟩
  obtain⟨y,M⟩:∃y:Nat,x%480=y:=⟨_,rfl⟩
  have J:((x:Int)%480)=(y:Int):=by omega
  have K:((y:Int)/8)=(i:Int):=by omega
  rw[A]at s;clear l g k a d j z A;go_enter func262,ntmps262;go_wp2;go_ret;refine⟨FX ?_,f.out⟩;rw[show x%8=y%8 by omega];exact NG c (y%8) F
theorem NA{t:Tw}{m x:Nat}(f:x/480<m)(l:List UInt8)(q:Bool)(a:l=if x/480<m/\pgW t (x/480+1)=true then pgB t (x/480) else List.replicate 60 0)(b:q=(decide (x/480<m)&&pgW t (x/480+1))):
  l.length=60/\((q=false/\gE t x=false)∨(q=true/\(pgC l)[x%480/8]? = some (.int .u8 ((byT t x).toNat:Nat))/\gE t x = !(byT t x).toNat.testBit (x%8))):=by
 rw[qA f,Bool.true_and]at b;by_cases h:pgW t (x/480+1)=true
 ·rw[qV ⟨f,h⟩]at a;have g:l.length=60:=by rw[a];exact Vo h
  refine⟨g,qY ⟨by rw[b,h], ?_, ?_⟩⟩
  ·rw[NQ l (by omega),<-NY x rfl,a,show x%480/8=x/8%60 by omega]
  ·unfold gE Vu;rw[h,Bool.true_and]
 ·rw[qZ (fun c=>h c.2)]at a;have d:=Bool.eq_false_iff.2 h;exact⟨by rw[a,List.length_replicate],qX ⟨by rw[b,d],by unfold gE;rw[d,Bool.false_and]⟩⟩
theorem NB(mb m x:Nat)(p n:Int)(t:Tw)(w:World)(c:vh w mb t m)(d:x/480<m)(f:x<=10000000):
  Calls prog 262 #[.agg #[.int .i64 p,.int .i64 n,.map (some mb)],.int .i64 (x:Nat)] w fun e w'=>e = .returned (.bool (gE t x))/\Below w.heap.size w w':=by
 obtain⟨a,h⟩:=NA (t:=t) d _ _ rfl rfl
 exact NW mb x p n (pgC _) _ (gE t x) (byT t x).toNat w f (by rw[p7,a]) (p8 _) (UInt8.toNat_lt _)
  (fun W b=>by
   have:=(c.below b).look (k:=x/480) (by omega);rw[Int.natCast_ediv]at this;exact this) h
theorem NC{g:Nat}{p b:Int}{i:Nat}(hi:i<nps p):prb g (i:Nat) b∈ux g p b:=sM.2 ⟨i,hi,rfl⟩
theorem ND(g:Nat)(w:World):Calls prog 220 #[.agg #[.int .i64 0,.int .i64 0,.map none],.int .u64 (g:Nat)] w fun e w'=>e = .returned (.bool true)/\Below w.heap.size w w':=by
 have a:Below w.heap.size w (w.alloc (.cells #[.int .i64 0,.int .i64 0,.map none] 217)):=(Below.refl _ _).alloc (qK _) _;go_enter func220,ntmps220;go_wp2;refine wp_loop_rounds 1 ?_;rw[rounds_succ];go_wp2;go_ret;exact⟨rfl,a⟩
theorem NF{w wr:World}{g:Nat}{t:TypeId}{cs:Array Value}(h:jY wr g t cs):∀W,Below wr.heap.size wr W->Below wr.heap.size wr W/\W.cell? ⟨g,0,none⟩=cs[0]?/\W.cell? ⟨g,1,none⟩=cs[1]?/\W.cell? ⟨g,2,none⟩=cs[2]? := fun W b =>
 have a:jY W g t cs:=(b.block _ h.lt).trans h
 ⟨b,a.cell 0,a.cell 1,a.cell 2⟩
theorem NH(mb g p n:Nat)(t:Tw)(r:Bool)(w:World)(hg:g<18446744073709551616)(N:vh w mb t (n/60))(hn:60<=n/\n<=120000/\n%60=0)(hp:p<=16)
  (B:(∀k∈ux g p ((8*n:Nat):Int),gE t k=false)->r=true) (A:∀k∈ux g p ((8*n:Nat):Int),gE t k=true->r=false):
  Calls prog 220 #[.agg #[.int .i64 (p:Nat),.int .i64 (n:Nat),.map (some mb)],.int .u64 (g:Nat)] w fun e w'=>e = .returned (.bool r)/\Below w.heap.size w w':=by
 have Q:nps (p:Nat)=p:=by unfold nps;omega
 obtain⟨b,u⟩:∃b:Int,((8*n:Nat):Int)=b:=⟨_,rfl⟩
 have eb:8*(n:Int)=b:=by omega
 have R:(Lit.int .i64 b).wf=true:=WalkArith.wf_i64 (by omega);rw[u]at B A;have Y:=qQ B;have T:=qQ A;have U:=qQ fun(i:Nat) (W:World) (M:i<64)=>VI g (i:Nat) b W hg (WalkArith.wf_i64 (by omega)) R
 have s:∀i:Nat,prb g (i:Nat) b/480<n/60/\prb g (i:Nat) b<=10000000:=fun i=>by
  have:=Kj g (i:Nat) (show 1<=b by omega);omega
 have S:=qQ s;have l:jY (w.alloc (.cells #[.int .i64 (p:Nat),.int .i64 (n:Nat),.map (some mb)] 217)) w.heap.size 217 #[.int .i64 (p:Nat),.int .i64 (n:Nat),.map (some mb)]:=jY.new w _ _;have y:Below w.heap.size w (w.alloc (.cells #[.int .i64 (p:Nat),.int .i64 (n:Nat),.map (some mb)] 217)):=(Below.refl _ _).alloc (qK _) _;have C:=N.below y;obtain⟨a,aa⟩:∃a,w.alloc (.cells #[.int .i64 (p:Nat),.int .i64 (n:Nat),.map (some mb)] 217)=a:=⟨_,rfl⟩
 rw[aa]at l y C;have c0:a.cell? ⟨w.heap.size,0,none⟩=some (.int .i64 (p:Nat)):=l.cell 0;have c1:a.cell? ⟨w.heap.size,1,none⟩=some (.int .i64 (n:Nat)):=l.cell 1;have d:=qQ (show jY a w.heap.size _ _/\vh a mb t (n/60)/\Below w.heap.size w a from⟨l,C,y⟩);clear l y C s B A u R N;go_enter func220,ntmps220;go_wp2;clear c0 c1;go_loopw [8] (fun v wr=>∃k:Nat,k<=p/\v = .int .i64 k/\(∀j,j<k->gE t (prb g (j:Nat) b)=false)/\Below a.heap.size a wr) (fun v _=>p-(intOf v).toNat)
 case atStart=>exact⟨0,qF _,rfl,fun j hj=>by omega,Below.refl _ _⟩
 case round =>
  obtain⟨k,hk,rfl,K,L⟩:=hrel;have H:=qQ K;have c:=qQ L;clear K L;by_cases s:k<p
  ·have I:=qQ fun W=>U.out k W (by omega)
   have f:=S.out k;have P:=d.out.2.1.below c.out;have o:jY wr w.heap.size _ _:=(c.out.block _ d.out.1.lt).trans d.out.1;have V:=qQ (show ∀W,Below wr.heap.size wr W->Below wr.heap.size wr W/\W.cell? ⟨w.heap.size,0,none⟩=some (.int .i64 (p:Nat))/\W.cell? ⟨w.heap.size,1,none⟩=some (.int .i64 (n:Nat))/\W.cell? ⟨w.heap.size,2,none⟩=some (.map (some mb)) from NF (w:=w) o);have O:=qQ (NC (g:=g) (p:=(p:Nat)) (b:=b) (i:=k) (by rw[Q];exact s));have c0:wr.cell? ⟨w.heap.size,0,none⟩=some (.int .i64 (p:Nat)):=o.cell 0;have c1:wr.cell? ⟨w.heap.size,1,none⟩=some (.int .i64 (n:Nat)):=o.cell 1;have c2:wr.cell? ⟨w.heap.size,2,none⟩=some (.map (some mb)):=o.cell 2;obtain⟨x,G⟩:∃x,prb g (k:Nat) b=x:=⟨_,rfl⟩
   have X:=qQ G;rw[G]at I f O;have J:=qQ fun W (Z:Below wr.heap.size wr W)=>(NB mb (n/60) x (p:Nat) (n:Nat) t W (P.below Z) f.1 f.2)
   have z:=qQ (show gE t x=gE t x from rfl);obtain⟨q,D⟩:∃q,gE t x=q:=⟨_,rfl⟩
   have z:=qQ D;rw[D]at J;have s5:(k:Int)<(p:Int):=(by omega);have ab:IntKind.i64.wrap b=b:=(by rw[IntKind.wrap_i64];omega);clear G f P o D;go_wp2_with fail
   go_region_held3 (fun W=>Below wr.heap.size wr W/\W.cell? ⟨w.heap.size,0,none⟩=some (.int .i64 (p:Nat))/\W.cell? ⟨w.heap.size,1,none⟩=some (.int .i64 (n:Nat))/\W.cell? ⟨w.heap.size,2,none⟩=some (.map (some mb)))
    (first | (with_reducible assumption) | ((with_reducible refine V.out _ ?_);(repeat' (first | (with_reducible assumption) | (with_reducible exact Below.refl _ _) | (with_reducible refine Below.drew ?_)));done) | fail)
    (first
    | (go_at_call 263;((with_reducible refine(I.out _).mono ?_);rintro e w'⟨rfl,rfl⟩))
    | (go_at_call 262;((with_reducible refine(J.out _ (And.left (by with_reducible assumption))).mono ?_);rintro e w'⟨rfl,u⟩;have ac:=bj (And.left (by with_reducible assumption)) u))
    | fail)
   cases q with
   | true =>
     have F:=T.out x O.out z.out;subst F;go_wp2;go_ret;exact⟨rfl,d.out.2.2.trans ((c.out.trans ((And.left (‹Below wr.heap.size wr _/\_›)).mono c.out.size)).mono d.out.2.2.size)⟩
   | false =>
     go_wp2;go_roundw
     case rel =>
      refine⟨k+1,s,by go_num,fun j hj=>?_,c.out.trans ((And.left (‹Below wr.heap.size wr _/\_›)).mono c.out.size)⟩;by_cases e:j=k
      ·rw[e,X.out];exact z.out
      ·exact H.out j (by omega)
     case measure=>simp[intOf];omega
  ·have F:r=true:=Y.out fun x f=>by
    obtain⟨i,M,rfl⟩:=sM.1 f;rw[Q]at M;exact H.out i (by omega)
   subst F;have s5:(p:Int)<=(k:Int):=(by omega);go_wp2;go_ret;exact⟨rfl,d.out.2.2.trans (c.out.mono d.out.2.2.size)⟩
theorem Vw(f:Value)(g:Nat)(t:Tw)(w:World)(a:g<18446744073709551616)(h:uj w f t):
  Calls prog 220 #[f,.int .u64 (g:Nat)] w fun e w'=>e = .returned (.bool (uz t g))/\Below w.heap.size w w':=by
 rcases h with⟨h,rfl⟩|⟨h,mb,rfl,c⟩
 ·rw[Vg h];exact ND g w
 ·obtain⟨i,j,l,n,o⟩:=sa.1 (Xj.1 h).2.1;exact NH mb g _ _ t (uz t g) w a c (by omega) (by omega) Mm fun k b d=>Mn h b d
end
section
structure j5 where
 next:Int
 check:Int
 seed:Nat
 lv:LvL
theorem j5.ext'{a b:j5}(c:a.next=b.next)(d:a.check=b.check)(f:a.seed=b.seed)(g:a.lv=b.lv):a=b:=by
 cases a;cases b;simp only at c d f g;subst c;subst d;subst f;subst g;rfl
def jw(m:j5):Prop:=0<=m.next/\m.next<=1000000/\0<=m.check/\m.check<=2147483647/\bq m.lv/\∀x∈m.lv.flatten,x<m.next
instance (m : j5):Decidable (jw m) := by unfold jw; infer_instance
def dm(m:j5):Bool:=decide (jw m)
def dD(m:j5):j5:=⟨m.next,m.check,m.seed,jI m.lv⟩
def p9(a b:j5):Bool:=decide (a.next=b.next/\a.check=b.check/\a.seed=b.seed/\jI a.lv=jI b.lv)
def u4(x:Int):List UInt8:=be 4 x.toNat
def lvB(l:List Int):List UInt8:=be 1 l.length++l.flatMap u4
def kc(L:LvL):List UInt8:=L.flatMap lvB
def cf: List UInt8:=[105,109,97,112]
def pq(m:j5):List UInt8:=cf++be 4 m.next.toNat++be 4 m.check.toNat++be 8 m.seed
def cB(m:j5):List UInt8:=pq m++be 1 (jI m.lv).length
def gH(m:j5):List UInt8:=cB m++kc (jI m.lv)
def mfB(m:j5):Tw:=vE (bs (gH m))
def mfS(m:j5):Tw:=if jw m then mfB m else ByteArray.empty
def mfE(m:j5):Int:=if jw m then 0 else 2
theorem Xd{m:j5}(h:¬jw m):mfS m=ByteArray.empty/\mfE m=2:=by unfold mfS mfE;rw[qZ h,qZ h];exact⟨rfl,rfl⟩
theorem Xf{m:j5}(h:jw m):mfS m=mfB m/\mfE m=0:=by unfold mfS mfE;rw[qV h,qV h];exact⟨rfl,rfl⟩
theorem YQ(x:Int):(u4 x).length=4:=jq _ _
theorem pz: ∀l:List Int,(l.flatMap u4).length=4*l.length
 | []=>rfl
 | x::l=>by rw[List.flatMap_cons,qI,YQ,pz l,qk];omega
theorem YX(l:List Int):(lvB l).length=1+4*l.length:=by unfold lvB;rw[qI,jq,pz]
theorem pj(a b:LvL):kc (a++b)=kc a++kc b:=by unfold kc;rw[List.flatMap_append]
theorem Xh(x:List Int)(L:LvL):kc (x::L)=lvB x++kc L:=by unfold kc;rw[List.flatMap_cons]
theorem YZ(x:List Int):kc [x]=lvB x:=by rw[Xh];show _++[]=_;rw[List.append_nil]
theorem Xl: ∀L:LvL,(kc L).length=L.length+4*L.flatten.length
 | []=>rfl
 | x::L=>by rw[Xh,qI,YX,Xl L,qk,List.flatten_cons,qI];omega
theorem NI(m:j5):(pq m).length=20:=by
 unfold pq;rw[qI,qI,qI,jq,jq,jq];rfl
theorem sw(m:j5):(cB m).length=21:=by unfold cB;rw[qI,NI,jq]
theorem ny(m:j5):(mfB m).size=25+(kc (jI m.lv)).length:=by unfold mfB;rw[lT,ji];unfold gH;rw[qI,sw];omega
theorem YJ(m:j5):(mfB m).data.toList=cB m++(kc (jI m.lv)++yQ (gH m)):=by
 unfold mfB;rw[pS,pR]
 conv=>lhs;arg 1;unfold gH
 rw[qb]
theorem jw.x9{m:j5}(h:jw m):(jI m.lv).length<=5/\(jI m.lv).flatten.length<=40/\∀x∈jI m.lv,x.length<=40/\∀y∈x,0<=y/\y<4294967296:=by
 obtain⟨n,o,p,q,c,g⟩:=h;have e:=lF m.lv;have r:=pU m.lv;have j:(jI m.lv).flatten.length<=40:=by rw[e];exact c.2.1
 refine⟨by have:=c.1;omega,j,fun x f=>⟨?_,fun y k=>?_⟩⟩
 ·have i:∀(L:LvL),x∈L->x.length<=L.flatten.length:=by
   intro L
   induction L with
   | nil=>intro h;cases h
   | cons z L l =>
     intro h;rw[List.flatten_cons,qI];rcases qL.1 h with rfl|h
     ·omega
     ·have:=l h;omega
  have:=i _ f;omega
 ·have d:y∈m.lv.flatten:=by rw[<-e];exact List.mem_flatten.2 ⟨x,f,k⟩
  have a:=c.2.2.1 y d;have b:=g y d;omega
theorem tQ{m:j5}(h:jw m):(mfB m).size<=190:=by
 obtain⟨a,b,-⟩:=h.x9;rw[ny,Xl];omega
theorem NL(L:LvL)(n:Nat)(b:n<=L.length):kU (L.take (kU L n)) (kU L n)=kU L n:=by
 induction n with
 | zero=>rfl
 | succ n a =>
   by_cases c:L.getD n []=[]
   ·have e:kU L (n+1)=kU L n:=(by rw[kU,qV c]);rw[e];exact a (by omega)
   ·have e:kU L (n+1)=n+1:=(by rw[kU,qZ c]);rw[e,kU,qZ];rw[qz,List.getElem?_take,qV (by omega),<-qz];exact c
theorem NN(L:LvL):jI (jI L)=jI L:=by
 have b:=sA L L.length;have h:=NL L L.length (qK _);have e:jI L=L.take (kU L L.length):=rfl;have a:(L.take (kU L L.length)).length=kU L L.length:=by rw[qS];omega
 show(jI L).take (kU (jI L) (jI L).length)=jI L;rw[e,a,h,List.take_take,Nat.min_self]
theorem NO{L:LvL}(h:bq L):bq (jI L):=by
 have:=pU L;refine⟨by have:=h.1;omega, ?_⟩;rw[lF];exact h.2
theorem tX{m:j5}(h:jw m):jw (dD m):=by
 obtain⟨a,b,c,d,f,g⟩:=h;refine⟨a,b,c,d,NO f, ?_⟩;show ∀x∈(jI m.lv).flatten,_;rw[lF];exact g
theorem YK(m:j5):mfB (dD m)=mfB m:=by
 have a:jI (dD m).lv=jI m.lv:=NN m.lv;have b:gH (dD m)=gH m:=by unfold gH cB pq;rw[a];rfl
 unfold mfB;rw[b]
def num(s:Tw)(p n:Nat):Nat:=jR (s.extract p (p+n))
def uk(s:Tw)(p k:Nat):List Int:=(List.range k).map fun j=>((num s (p+4*j) 4:Nat):Int)
theorem pk(s:Tw)(p k:Nat):(uk s p k).length=k:=by unfold uk;rw[qj,List.length_range]
theorem NP(s:Tw)(p k:Nat):uk s p (k+1)=uk s p k++[((num s (p+4*k) 4:Nat):Int)]:=by unfold uk;rw[List.range_succ,List.map_append];rfl
theorem NR(s:Tw)(p:Nat):uk s p 0=[]:=rfl
theorem NS(s:Tw)(p:Nat){k j:Nat}(h:j<k):(uk s p k)[j]? = some ((num s (p+4*j) 4:Nat):Int):=by unfold uk;rw[qu,List.getElem?_range h];rfl
theorem ng{s:Tw}{a b c:List UInt8}{p n:Nat}(h:s.data.toList=a++(b++c))(g:p=a.length)(f:n=b.length)(d:n<=8):num s p n=un b:=by
 subst g;subst f;unfold num jR;rw[cd,h,List.drop_left,show a.length+b.length-a.length=b.length by omega,List.take_left,qd d]
theorem Xm(s:Tw)(p n k:Nat)(c:n<=k)(b:n<=8):num s p n<256 ^ k:=by
 unfold num jR;have h:=fI ((s.extract p (p+n)).data.toList.take 8)
 have a:((s.extract p (p+n)).data.toList.take 8).length<=k:=by
  rw[qS,cd,qS];omega
 exact qR h (Nat.pow_le_pow_right (by decide) a)
theorem Xn(n:Nat)(h:n<4294967296):un (be 4 n)=n:=by
 have p:(256:Nat) ^ 4=4294967296:=by decide
 rw[cj,p,Nat.mod_eq_of_lt h]
theorem NT(n:Nat)(h:n<18446744073709551616):un (be 8 n)=n:=by
 have p:(256:Nat) ^ 8=18446744073709551616:=by decide
 rw[cj,p,Nat.mod_eq_of_lt h]
theorem YV(n:Nat)(h:n<256):un (be 1 n)=n:=by rw[cj,Nat.pow_one,Nat.mod_eq_of_lt h]
theorem N0{x:List Int}{j:Nat}(h:j<x.length):x.flatMap u4=(x.take j).flatMap u4++(u4 x[j]++(x.drop (j+1)).flatMap u4):=by
 conv=>lhs;rw[<-ql j x,List.drop_eq_getElem_cons h,List.flatMap_append,List.flatMap_cons]
theorem N3{s:Tw}{a c:List UInt8}{x:List Int}{p:Nat}(h:s.data.toList=a++(x.flatMap u4++c))(d:p=a.length)(f:∀y∈x,0<=y/\y<4294967296):uk s p x.length=x:=by
 apply List.ext_getElem?;intro j;rcases Nat.lt_or_ge j x.length with c1|c1
 ·rw[NS _ _ c1,qC c1]
  have e:s.data.toList=(a++(x.take j).flatMap u4)++(u4 x[j]++((x.drop (j+1)).flatMap u4++c)):=by
   rw[h,N0 c1];simp only[List.append_assoc]
  have b:p+4*j=(a++(x.take j).flatMap u4).length:=by rw[qI,pz,qS,d];omega
  have g:=f x[j] (List.getElem_mem c1);rw[ng e b (YQ _).symm (by decide)];unfold u4;rw[Xn _ (by omega)];congr 1;omega
 ·rw[List.getElem?_eq_none (by rw[pk];exact c1),List.getElem?_eq_none c1]
def place(T:LvL)(i:Nat):Nat:=21+(kc (T.take i)).length
theorem N5{T:LvL}{i:Nat}{x:List Int}(h:T[i]? = some x):place T (i+1)=place T i+1+4*x.length:=by
 have e:T.take (i+1)=T.take i++[x]:=by rw[List.take_add_one,h];rfl
 unfold place;rw[e,pj,YZ,qI,YX];omega
theorem Xp{m:j5}{s:Tw}(h:jw m)(i:m.seed<18446744073709551616)(g:mfB m=s):
  ((num s 4 4:Nat):Int)=m.next/\((num s 8 4:Nat):Int)=m.check/\num s 12 8=m.seed/\num s 20 1=(jI m.lv).length:=by
 obtain⟨k,l,n,o,f,p⟩:=h;have q:=pU m.lv;have r:=f.1;have e:=YJ m;rw[g]at e;unfold cB pq at e;have j:cf.length=4:=rfl;have a:s.data.toList=cf++(be 4 m.next.toNat++(be 4 m.check.toNat++(be 8 m.seed++(be 1 (jI m.lv).length++(kc (jI m.lv)++yQ (gH m)))))):=by rw[e];simp only[List.append_assoc]
 have b:s.data.toList=(cf++be 4 m.next.toNat)++(be 4 m.check.toNat++(be 8 m.seed++(be 1 (jI m.lv).length++(kc (jI m.lv)++yQ (gH m))))):=by rw[e];simp only[List.append_assoc]
 have c:s.data.toList=(cf++be 4 m.next.toNat++be 4 m.check.toNat)++(be 8 m.seed++(be 1 (jI m.lv).length++(kc (jI m.lv)++yQ (gH m)))):=by rw[e];simp only[List.append_assoc]
 have d:s.data.toList=(cf++be 4 m.next.toNat++be 4 m.check.toNat++be 8 m.seed)++(be 1 (jI m.lv).length++(kc (jI m.lv)++yQ (gH m))):=by rw[e];simp only[List.append_assoc]
 refine⟨?_, ?_, ?_, ?_⟩
 ·rw[ng a j.symm (jq _ _).symm (by decide),Xn _ (by omega)];omega
 ·rw[ng b (by rw[qI,jq];rfl) (jq _ _).symm (by decide),Xn _ (by omega)];omega
 ·rw[ng c (by rw[qI,qI,jq,jq];rfl) (jq _ _).symm (by decide),NT _ i]
 ·rw[ng d (by rw[qI,qI,qI,jq,jq,jq];rfl) (jq _ _).symm (by decide),YV _ (by omega)]
theorem Xr{m:j5}{s:Tw}{i:Nat}{x:List Int}(h:jw m)(l:mfB m=s)(c:(jI m.lv)[i]? = some x):
  num s (place (jI m.lv) i) 1=x.length/\uk s (place (jI m.lv) i+1) x.length=x/\place (jI m.lv) i+1+4*x.length+4<=s.size:=by
 obtain⟨p,q,n⟩:=h.x9;obtain⟨r,o⟩:=n x (qM c);have k:i<(jI m.lv).length:=(qP.1 c).1;have e:=YJ m;have b:=ny m;rw[l]at e b
 have j:jI m.lv=(jI m.lv).take i++(x::(jI m.lv).drop (i+1)):=by
  have:=(qP.1 c).2
  conv=>lhs;rw[<-ql i (jI m.lv),List.drop_eq_getElem_cons k,this]
 have a:kc (jI m.lv)=kc ((jI m.lv).take i)++(be 1 x.length++(x.flatMap u4++kc ((jI m.lv).drop (i+1)))):=by
  conv=>lhs;rw[j]
  rw[pj,Xh];unfold lvB;simp only[List.append_assoc]
 have f:s.data.toList=(cB m++kc ((jI m.lv).take i))++(be 1 x.length++(x.flatMap u4++(kc ((jI m.lv).drop (i+1))++yQ (gH m)))):=by rw[e,a];simp only[List.append_assoc]
 have g:s.data.toList=(cB m++kc ((jI m.lv).take i)++be 1 x.length)++(x.flatMap u4++(kc ((jI m.lv).drop (i+1))++yQ (gH m))):=by rw[e,a];simp only[List.append_assoc]
 have d:place (jI m.lv) i=(cB m++kc ((jI m.lv).take i)).length:=by unfold place;rw[qI,sw]
 refine⟨?_, ?_, ?_⟩
 ·rw[ng f d (jq _ _).symm (by decide),YV _ (by omega)]
 ·exact N3 g (by rw[qI,jq,<-d]) o
 ·rw[a]at b;simp only[List.length_append,jq,pz]at b;unfold place;omega
def mI(s:Tw)(i p:Nat)(L:LvL):Prop:=∀m,jw m->mfB m=s->i<=(jI m.lv).length->p=place (jI m.lv) i/\L=(jI m.lv).take i
theorem YY(s:Tw):mI s 0 21 []:=fun m _ _ _=>⟨rfl,rfl⟩
theorem YU{s:Tw}{i p k:Nat}{L:LvL}(h:mI s i p L)(o:k<=num s p 1)(n:k=num s p 1∨s.size<p+1+4*k+4):mI s (i+1) (p+1+4*k) (L++[uk s (p+1) k]):=by
 intro m b c f;obtain⟨rfl,rfl⟩:=h m b c (by omega);obtain⟨x,a⟩:∃x,(jI m.lv)[i]? = some x:=⟨_,qC f⟩
 obtain⟨j,d,l⟩:=Xr b c a;have g:k=x.length:=by omega
 subst g;refine⟨(N5 a).symm, ?_⟩;rw[d,List.take_add_one,a];rfl
def pv(s:Tw)(r:j5):Prop:=∀m,jw m->m.seed<18446744073709551616->mfB m=s->r=dD m
theorem YG{s:Tw}{n p:Nat}{L:LvL}(h:mI s n p L)(r:n<=num s 20 1)(j:n=num s 20 1∨s.size<=p):pv s ⟨(num s 4 4:Nat),(num s 8 4:Nat),num s 12 8,L⟩:=by
 intro m b l a;obtain⟨c,d,f,o⟩:=Xp b l a;obtain⟨g,i⟩:=h m b a (by omega)
 have k:n=(jI m.lv).length:=by
  rcases j with e|e
  ·omega
  ·have q:(kc ((jI m.lv).take n)).length<=(kc (jI m.lv)).length:=by
    conv=>rhs;rw[<-ql n (jI m.lv),pj,qI]
    omega
   have:=ny m;rw[a]at this;unfold place at g;omega
 refine j5.ext' c d f ?_;show L=jI m.lv;rw[i,k,List.take_length]
def ur(s:Tw):Prop:=∃m,(jw m/\m.seed<18446744073709551616)/\mfB m=s
open Classical in
noncomputable def mgE (s:Tw):Int:=if ur s then 0 else 90
def py: j5:=⟨0,0,0,[]⟩
open Classical in
noncomputable def mgM (s:Tw):j5:=if h:ur s then dD (Classical.choose h) else py
theorem N7{s:Tw}(h:¬ur s):mgE s=90/\mgM s=py:=by unfold mgE mgM;rw[qZ h,dif_neg h];exact⟨rfl,rfl⟩
theorem N8{s:Tw}{r:j5}(h:ur s)(d:pv s r):mgE s=0/\mgM s=r:=by
 unfold mgE mgM;rw[qV h,dif_pos h];obtain⟨⟨a,b⟩,c⟩:=Classical.choose_spec h;exact⟨rfl,(d _ a b c).symm⟩
theorem N9{s:Tw}{r:j5}(d:pv s r)(f:r.seed<18446744073709551616):ur s↔jw r/\mfB r=s:=by
 constructor
 ·rintro ⟨m,⟨a,b⟩,c⟩;have e:=d m a b c;rw[e];exact⟨tX a,by rw[YK];exact c⟩
 ·rintro ⟨a,b⟩;exact⟨r,⟨a,f⟩,b⟩
theorem Nq{m:j5}(h:jw m)(c:m.seed<18446744073709551616):mgE (mfB m)=0/\mgM (mfB m)=dD m:=by
 have b:ur (mfB m):=⟨m,⟨h,c⟩,rfl⟩
 unfold mgE mgM;rw[qV b,dif_pos b];obtain⟨⟨f,g⟩,j⟩:=Classical.choose_spec b;refine⟨rfl, ?_⟩;generalize Classical.choose b=o at*
 have q:∀a:j5,jw a->a.seed<18446744073709551616->mfB a=mfB m->∃L p,mI (mfB m) (num (mfB m) 20 1) p L:=by
  intro a r u s
  have l:∀i,∃L p,mI (mfB m) i p L:=by
   intro i
   induction i with
   | zero=>exact⟨_,_,YY _⟩
   | succ i n =>
     obtain⟨L,p,h⟩:=n;exact⟨_,_,YU h (qK _) (qX rfl)⟩
  exact l _
 obtain⟨L,p,k⟩:=q m h c rfl;have d:=YG k (qK _) (qX rfl);rw[<-d o f g j,d m h c rfl]
theorem YW{s:Tw}(h:ur s):vt s=true:=by
 obtain⟨m,-,rfl⟩:=h;exact Vz _
theorem Xs{a x:Tw}{p n:Nat}(h:p+n<=a.size):num (a++x) p n=num a p n:=by
 have b:=yO a;unfold num;rw[yt (a++x),yt a,Mb,List.drop_append_of_le_length (by omega),List.take_append_of_le_length (by rw[List.length_drop];omega)]
theorem Nx{a x:Tw}{p k:Nat}(h:p+4*k<=a.size):uk (a++x) p k=uk a p k:=by
 unfold uk;apply List.map_congr_left;intro j b;have:=List.mem_range.1 b;rw[Xs (by omega)]
theorem Nz{a x:Tw}(s:ur a)(u:ur (a++x)):x.size=0:=by
 obtain⟨m,⟨j,C⟩,b⟩:=s;obtain⟨n,⟨k,D⟩,c⟩:=u;have M:25<=a.size:=by rw[<-b,ny];omega
 have J:=(Xp j C b).2.2.2;have B:=(Xp k D c).2.2.2;rw[Xs (by omega)]at B;have y:(jI n.lv).length=(jI m.lv).length:=by omega
 have A:∀i,i<=(jI m.lv).length->(jI n.lv).take i=(jI m.lv).take i:=by
  intro i
  induction i with
  | zero=>intro _;rfl
  | succ i z =>
    intro v;have e:=z (by omega);obtain⟨K,l⟩:∃x,(jI m.lv)[i]? = some x:=⟨_,qC v⟩
    obtain⟨L,o⟩:∃x,(jI n.lv)[i]? = some x:=⟨_,qC (show i<(jI n.lv).length by omega)⟩
    obtain⟨p,q,H⟩:=Xr j b l;obtain⟨d,f,I⟩:=Xr k c o;have g:place (jI n.lv) i=place (jI m.lv) i:=(by unfold place;rw[e]);rw[g,Xs (by omega),p]at d;rw[g,<-d,Nx (by omega),q]at f;rw[List.take_add_one,List.take_add_one,e,l,o,f]
 have r:jI n.lv=jI m.lv:=by
  have:=A _ (qK _);rw[List.take_length]at this;rw[<-this,<-y,List.take_length]
 have F:=ny m;have G:=ny n;rw[b]at F;rw[c,r,qy]at G;omega
def jC: Tw:=⟨#[109,97,112]⟩
def jB: Tw:=⟨#[110,101,119]⟩
theorem Xt: jC≠jB:=by decide +kernel
theorem Nj: ky jC=true:=by decide +kernel
theorem Nk: ky jB=true:=by decide +kernel
noncomputable def vW (D:jK):Int:=if (rdW D jC).2.1≠0 then((rdW D jC).2.1:Nat) else mgE (rdW D jC).1
noncomputable def jb (D:jK):j5:=if (rdW D jC).2.1≠0 then py else mgM (rdW D jC).1
def bA(D:jK):jK:=(rdW D jC).2.2
def yc(D:jK)(m:j5):Nat × jK :=
 if ¬jw m then(2,D)
 else if D.down=true then(61,D)
 else if (j6 D jB).1≠0/\(j6 D jB).1≠4 then j6 D jB
 else if ((j6 D jB).2.cap:Int)-(jA (j6 D jB).2.l:Nat)-((mfB m).size:Nat)<6000 then(60,(j6 D jB).2)
 else if (jk (j6 D jB).2 jB (mfB m)).1≠0 then jk (j6 D jB).2 jB (mfB m)
 else vD (jk (j6 D jB).2 jB (mfB m)).2 jB jC
theorem Nv{D:jK}(ok:WfP D)(m:j5):WfP (yc D m).2:=by
 unfold yc;have a:=dW ok jB;have b:=nR a jB (mfB m);split
 ·exact ok
 ·split
  ·exact ok
  ·split
   ·exact a
   ·split
    ·exact a
    ·split
     ·exact b
     ·exact XI b _ _
theorem Ny{D:jK}{m:j5}(a:¬jw m):yc D m=(2,D):=by unfold yc;rw[qV a]
def ue(fl:List Int)(n:Tw):Bool:=decide (n=jB)||(ku n&&!decide (npK n=99)&&!decide ((npN n:Int)∈fl))
def ui(l:List Tw)(m:j5):List Tw:=l.filter (ue m.lv.flatten)
def fx: jK->List Tw->Nat × jK
 | D,[]=>(0,D)
 | D,n::ns=>if (j6 D n).1≠0 then j6 D n else fx (j6 D n).2 ns
def mL(D:jK)(m:j5):Nat × jK:=if D.down=true then(61,D) else fx D (ui (D.l.map jU.name) m)
abbrev j7(D:jK):List Tw:=D.l.map jU.name
theorem pc(n:Tw):∀l:List jU,(l.map jU.name).Nodup->(kO l (jD l n)).map jU.name=(l.map jU.name).filter (fun x=>!decide (x=n))
 | [],_=>rfl
 | x::l,hd=>by
   obtain⟨b,c⟩:=List.nodup_cons.1 (show(x.name::l.map jU.name).Nodup from hd);have a:=pc n l c;unfold kO jD at a ⊢;rw[List.findIdx_cons,List.map_cons];by_cases e:x.name=n
   ·rw[qA e,List.filter_cons_of_neg (by simp[e])];show l.map jU.name=_;refine(List.filter_eq_self.2 fun y d=>?_).symm;have:y≠n:=fun h=>b (e.trans h.symm ▸ d)
    simpa using this
   ·rw[qW e,List.filter_cons_of_pos (by simp[e])];simp only[cond_false,List.take_succ_cons,List.drop_succ_cons,List.cons_append,List.map_cons];rw[a]
theorem YA{l:List jU}{n:Tw}(h:n∈l.map jU.name):∃f,jW l n=some f:=by
 obtain⟨f,a,rfl⟩:=qN.1 h;cases e:jW l f.name with
 | some g=>exact⟨g,rfl⟩
 | none =>
   unfold jW at e;have:=List.find?_eq_none.1 e f a;simp at this
end
section
open Go.RowKit
theorem Nu{l:List Tw}{m:j5}{j:Nat}{x:Tw}(h:l[j]? = some x):ui (l.take (j+1)) m=ui (l.take j) m++(if ue m.lv.flatten x=true then [x] else []):=by
 unfold ui;rw[List.take_add_one,h,List.filter_append];congr 1;show [x].filter _=_;by_cases a:ue m.lv.flatten x=true
 ·rw[qV a,List.filter_cons_of_pos a,List.filter_nil]
 ·rw[qZ a,List.filter_cons_of_neg a,List.filter_nil]
theorem YB(l:List Tw)(m:j5):(ui l m).length<=l.length:=List.length_filter_le _ _
theorem Ng{n:Tw}(h:ky n=true):n.size<=maxLen:=by
 unfold ky at h;simp only[Bool.and_eq_true,decide_eq_true_eq]at h;exact qO h.2 (by decide)
theorem DS.names{a:jL}{i w:World}{b:Nat}{D:jK}{E:List Nat}(api:jM a)(h:DS a i b D E w):∀x∈D.l.map jU.name,x.size<=maxLen:=by
 obtain⟨F,c,j,k⟩:=h;intro x g;obtain⟨f,d,rfl⟩:=qN.1 g;exact Ng ((api.qw c).2 f d)
def yZ(s:Tw)(p:Nat):Tw:=s.extract p s.size
theorem Xa(s:Tw)(p:Nat):(yZ s p).size=s.size-p:=by unfold yZ;rw[qT];omega
theorem Nb(s:Tw):yZ s 0=s:=by
 unfold yZ;have a:=yO s;rw[yt,List.drop_zero,qd (by omega),bG]
theorem Xe(s:Tw)(p:Nat):(yZ s p).data.toList=s.data.toList.drop p:=by
 unfold yZ;have a:=yO s;rw[cd,qd (by rw[List.length_drop];omega)]
theorem Nc(s:Tw)(p k:Nat):jR ((yZ s p).extract 0 (min k (yZ s p).size))=num s p k:=by
 unfold num;congr 1;rw[yt,yt s p,Xe,Xa,List.drop_zero,Nat.sub_zero,show p+k-p=k by omega];congr 1;have a:=yO s;rcases Nat.lt_or_ge k (s.size-p) with c|c
 ·rw[Nat.min_eq_left (by omega)]
 ·rw[Nat.min_eq_right c,qd (by rw[List.length_drop];omega),qd (by rw[List.length_drop];omega)]
theorem Nd(s:Tw)(p k:Nat):(yZ s p).extract (min k (yZ s p).size) (yZ s p).size=yZ s (p+k):=by
 have a:=yO s;have b:=Xa s p;rw[<-bG ((yZ s p).extract _ _),<-bG (yZ s (p+k)),cd,Xe,Xe];congr 1;rw[List.drop_drop,qd (by rw[List.length_drop];omega)];rcases Nat.lt_or_ge k (yZ s p).size with c|c
 ·rw[Nat.min_eq_left (by omega)]
 ·rw[Nat.min_eq_right c,List.drop_eq_nil_of_le (by omega),List.drop_eq_nil_of_le (by omega)]
theorem YC(r:Tw):r.extract 0 r.size=r:=by
 have a:=yO r;rw[yt,List.drop_zero,qd (by omega),bG]
theorem YD(r:Tw):r.extract r.size r.size=ByteArray.empty:=by
 rw[yt,Nat.sub_self,List.take_zero];rfl
def Xi(w:World)(g:Nat)(x:Nat)(t:Tw)(e:Ending)(w':World):Prop:=e = .returned (.int .u64 (x:Nat))/\w'=w.setCell ⟨g,0,none⟩ (.string t)
theorem Nf(r:Tw)(k g:Nat)(w:World)(p:1<=k)(q:k<=8)(i:r.size<=1100000)(n:w.cell? ⟨g,0,none⟩=some (.string r))(o:w.frozen? ⟨g,0,none⟩=false):
  Calls prog 223 #[.pointer (some ⟨g,0,none⟩),.int .i64 (k:Nat)] w (Xi w g (jR (r.extract 0 (min k r.size))) (r.extract (min k r.size) r.size)):=by
 have b:=qQ (fun(m:Nat)=>cA (r.extract 0 m) w (by rw[qT];unfold maxLen;omega));unfold Xi;obtain⟨z,d⟩:∃z,z=r.size:=⟨_,rfl⟩
 rw[<-d]at i ⊢;rcases Nat.lt_trichotomy k z with c|c|c
 ·rw[Nat.min_eq_left (by omega)];have a:=qQ (b.out k);clear b;subst d;go_enter func223,ntmps223;go_wp2_with fail;refine a.out.mono ?_;rintro e w'⟨rfl,rfl⟩;go_wp2;go_ret;exact⟨rfl,rfl⟩
 ·obtain rfl:k=z:=c;rw[Nat.min_self];have a:=qQ (b.out k);clear b;subst d;rw[YC]at a ⊢;rw[YD];go_enter func223,ntmps223;go_wp2_with fail;refine a.out.mono ?_;rintro e w'⟨rfl,rfl⟩;go_wp2;go_ret;exact⟨rfl,rfl⟩
 ·rw[Nat.min_eq_right (by omega)];have a:=qQ (b.out z);clear b;by_cases l:z=0
  ·subst l
   have j:r=ByteArray.empty:=by
    have:r.data.toList=[]:=List.length_eq_zero_iff.1 (by rw[yO];exact d.symm);rw[<-bG r,this];rfl
   subst j;have f:ByteArray.empty.extract 0 0=ByteArray.empty:=(by rw[yt];rfl);rw[f]at a ⊢;clear f d;go_enter func223,ntmps223;go_wp2_with fail;refine a.out.mono ?_;rintro e w'⟨rfl,rfl⟩;go_wp2;go_ret;exact⟨rfl,rfl⟩
  ·subst d;rw[YC]at a ⊢;rw[YD];go_enter func223,ntmps223;go_wp2_with fail;refine a.out.mono ?_;rintro e w'⟨rfl,rfl⟩;go_wp2;go_ret;exact⟨rfl,rfl⟩
theorem YE(s:Tw)(p k g:Nat)(w:World)(c:1<=k)(d:k<=8)(f:s.size<=1100000)(a:w.cell? ⟨g,0,none⟩=some (.string (yZ s p)))(b:w.frozen? ⟨g,0,none⟩=false):
  Calls prog 223 #[.pointer (some ⟨g,0,none⟩),.int .i64 (k:Nat)] w (Xi w g (num s p k) (yZ s (p+k))):=by
 have h:=Nf (yZ s p) k g w c d (by rw[Xa];omega) a b;rw[Nc,Nd]at h;exact h
theorem Nh(c:UInt8)(n:Int)(w:World)(h:¬(0<=n/\n<=999999)):
  Calls prog 148 #[.int .u8 (c.toNat:Nat),.int .i64 n] w fun e w'=>e = .returned (.string ByteArray.empty)/\Below w.heap.size w w':=by
 by_cases a:n<0
 ·have b:decide (n<0)=true:=qA a;clear h;go_enter func148,ntmps148;go_wp2;go_ret;exact⟨rfl,Below.refl _ _⟩
 ·have b:decide (n<0)=false:=qW a;have d:decide (999999<n)=true:=qA (by omega);clear h;go_enter func148,ntmps148;go_wp2;go_ret;exact⟨rfl,Below.refl _ _⟩
theorem Nl(l:List UInt8)(i:Nat)(b:UInt8)(hi:i<l.length)(j:Nat):(if j=i then Value.int .u8 ((b.toNat:Nat):Int) else fF l j)=fF (l.set i b) j:=by
 unfold fF;by_cases e:j=i
 ·subst e;rw[qV rfl,qz,List.getElem?_set_self hi];rfl
 ·rw[qZ e,qz,qz,List.getElem?_set_ne (fun h=>e h.symm)]
def nmL(c:UInt8)(k n:Nat):List UInt8:=c::(List.replicate (6-k) 0++de k n)
theorem YF(c:UInt8)(k n:Nat)(a:k<=6):(nmL c k n).length=7:=by simp[nmL,nT];omega
theorem Nm(c:UInt8)(k n:Nat)(f:k<6):(nmL c k n).set (6-k) (UInt8.ofNat (48+n/10 ^ k%10))=nmL c (k+1) n:=by
 obtain⟨j,a⟩:∃j,6-k=j+1:=⟨5-k,by omega⟩
 have b:6-(k+1)=j:=by omega
 have d:(List.replicate j (0:UInt8)).length=j:=List.length_replicate;unfold nmL;rw[a,b,List.set_cons_succ,de,List.replicate_succ',qb,List.set_append_right _ _ (by omega),d,Nat.sub_self,List.singleton_append,List.set_cons_zero]
theorem Nn(c:UInt8)(n:Nat)(w:World)(h:n<=999999):
  Calls prog 148 #[.int .u8 (c.toNat:Nat),.int .i64 (n:Nat)] w fun e w'=>e = .returned (.string (bs (c::de 6 n)))/\Below w.heap.size w w':=by
 have B:decide ((n:Int)<0)=false:=qW (by omega);have C:decide ((999999:Int)<(n:Int))=false:=qW (by omega);go_enter func148,ntmps148;go_wp2;go_loopw [1,15] (fun m i wr=>∃k:Nat,k<=6/\i = .int .i64 k/\m = .int .i64 (n/10 ^ k:Nat)/\RowB wr w.heap.size 7 (fF (nmL c k n))/\Below w.heap.size w wr) (fun _ i _=>6-(intOf i).toNat)
 case atStart =>
  refine⟨0,qF _,rfl,by simp, ?_, ?_⟩
  ·refine⟨_,234,(0,0),(show(w.heap.push _)[w.heap.size]? = _ from Array.getElem?_push_size),qK 7,qX rfl,fun i r=>?_⟩;have q:nmL c 0 n=[c,0,0,0,0,0,0]:=rfl;rw[q]
   match i,r with
   | 0,_ | 1,_ | 2,_ | 3,_ | 4,_ | 5,_ | 6,_=>rfl
  ·exact(Below.refl _ _).alloc (qK _) _
 case round =>
  obtain⟨k,s,rfl,rfl,b,f⟩:=hrel;by_cases u:k<6
  ·obtain⟨m,a⟩:∃m,n/10 ^ k=m:=⟨_,rfl⟩
   have g:n/10 ^ (k+1)=m/10:=(by rw[Nat.pow_succ,<-Nat.div_div_eq_div_mul,a]);have A:m<=999999:=(by rw[<-a];exact qO (Nat.div_le_self _ _) h);rw[a];have p:=qQ g;have v:=b.cell (i:=6-k) (by omega);have z:=b.frozen (i:=6-k) (by omega);have l:=b.set (6-k) (.int .u8 ((UInt8.ofNat (48+m%10)).toNat:Nat));have d:=l.congr (fun j _=>Nl _ _ _ (by rw[YF c k n s];omega) j);rw[<-a,Nm c k n u,a,nz _ (Nat.mod_lt _ (by decide))]at d;have o:=qQ d;clear a g l d;clear b;go_wp2;go_roundw
   case rel =>
    refine⟨k+1,by omega,by go_num,by rw[p.out];go_num, ?_, ?_⟩
    ·exact o.out
    ·exact f.setCell (by simp) _
   case measure=>simp[intOf];omega
  ·obtain rfl:k=6:=(by omega);have y:=Qt b (YF c 6 n (qK _)) 7;go_wp2;go_ret;exact⟨rfl,f⟩
theorem Xo(c:UInt8)(n:Int)(w:World):
  Calls prog 148 #[.int .u8 (c.toNat:Nat),.int .i64 n] w fun e w'=>e = .returned (.string (nmS c n))/\Below w.heap.size w w':=by
 by_cases h:0<=n/\n<=999999
 ·obtain⟨k,rfl⟩:∃k:Nat,n=k:=⟨n.toNat,by omega⟩
  rw[dh (by omega)];exact Nn c k w (by omega)
 ·rw[Ma h];exact Nh _ n w h
theorem Np(n:Int)(w:World):Calls prog 83 #[.int .i64 n] w fun e w'=>e = .returned (.string (nmS 99 n))/\Below w.heap.size w w':=by
 have h:Calls prog 148 #[.int .u8 99,.int .i64 n] w fun e w'=>e = .returned (.string (nmS 99 n))/\Below w.heap.size w w':=Xo 99 n w
 generalize nmS 99 n=s at*;have H:=qQ h;clear h;go_enter func83,ntmps83;go_wp2_with fail;refine(H.out).mono ?_;rintro _ b⟨rfl,a⟩;go_wp2;go_ret;exact⟨rfl,a⟩
theorem Nr(n:Int)(w:World):Calls prog 110 #[.int .i64 n] w fun e w'=>e = .returned (.string (nmS 116 n))/\Below w.heap.size w w':=by
 have h:Calls prog 148 #[.int .u8 116,.int .i64 n] w fun e w'=>e = .returned (.string (nmS 116 n))/\Below w.heap.size w w':=Xo 116 n w
 generalize nmS 116 n=s at*;have H:=qQ h;clear h;go_enter func110,ntmps110;go_wp2_with fail;refine(H.out).mono ?_;rintro _ b⟨rfl,a⟩;go_wp2;go_ret;exact⟨rfl,a⟩
theorem Ns(n:Int)(w:World):Calls prog 111 #[.int .i64 n] w fun e w'=>e = .returned (.string (nmS 98 n))/\Below w.heap.size w w':=by
 have h:Calls prog 148 #[.int .u8 98,.int .i64 n] w fun e w'=>e = .returned (.string (nmS 98 n))/\Below w.heap.size w w':=Xo 98 n w
 generalize nmS 98 n=s at*;have H:=qQ h;clear h;go_enter func111,ntmps111;go_wp2_with fail;refine(H.out).mono ?_;rintro _ b⟨rfl,a⟩;go_wp2;go_ret;exact⟨rfl,a⟩
theorem YH(c:UInt8)(w:World):Calls prog 114 #[.int .u8 (c.toNat:Nat)] w fun e w'=>e = .returned (.bool (isK c))/\w=w':=by
 by_cases a:c.toNat=99
 ·obtain rfl:c=99:=UInt8.toNat_inj.1 a;go_enter func114,ntmps114;go_wp2;go_ret;exact⟨rfl,rfl⟩
 ·by_cases b:c.toNat=116
  ·obtain rfl:c=116:=UInt8.toNat_inj.1 b;go_enter func114,ntmps114;go_wp2;go_ret;exact⟨rfl,rfl⟩
  ·by_cases d:c.toNat=98
   ·obtain rfl:c=98:=UInt8.toNat_inj.1 d;go_enter func114,ntmps114;go_wp2;go_ret;exact⟨rfl,rfl⟩
   ·have f:isK c=false:=by
     simp only[isK,Bool.or_eq_false_iff,beq_eq_false_iff_ne];exact⟨⟨fun e=>a (by rw[e];rfl),fun e=>b (by rw[e];rfl)⟩,fun e=>d (by rw[e];rfl)⟩
    have g:((c.toNat:Int)==99)=false:=qv.2 (by omega);have i:((c.toNat:Int)==116)=false:=qv.2 (by omega);have j:((c.toNat:Int)==98)=false:=qv.2 (by omega);rw[f];clear f a b d;go_enter func114,ntmps114;go_wp2;go_ret;exact⟨rfl,rfl⟩
def YI(w:World)(e:Ending)(w':World):Prop:=e = .returned (.tuple #[.int .u8 0,.int .i64 0,.bool false])/\w=w'
theorem Nt(s:Tw)(w:World)(a:s.size<=maxLen)(h:¬s.size=7):
  Calls prog 49 #[.string s] w (YI w):=by
 unfold maxLen at a;have b:((s.size:Int) != 7)=true:=by simp;omega
 have c:((s.size:Int)==7)=false:=qv.2 (by omega);clear h;go_enter func49,ntmps49;go_wp2;go_ret3;exact⟨rfl,rfl⟩
theorem Na(s:Tw)(w:World)(d:0<s.size)(h:s.size=7)(c:UInt8)(f:s[0]'d=c)(b:isK c=false):
  Calls prog 49 #[.string s] w (YI w):=by
 have i:((s.size:Int) != 7)=false:=by simp;omega
 have j:((s.size:Int)==7)=true:=beq_iff_eq.2 (by omega);have g:(0:Int)<(s.size:Int):=by omega
 have a:=qQ (YH c);clear h;go_enter func49,ntmps49;go_wp2_with fail;refine(a.out w).mono ?_;rintro _ _⟨rfl,rfl⟩;rw[b];go_wp2;go_ret3;exact⟨rfl,rfl⟩
theorem Ni(s:Tw)(w:World)(hz:0<s.size)(h:s.size=7)(c:UInt8)(l:List UInt8)(g:s.data.toList=c::l)(B:isK c=true):
  Calls prog 49 #[.string s] w fun e w'=>e = .returned (.tuple #[.int .u8 (npK s:Nat),.int .i64 (npN s:Nat),.bool (ku s)])/\w=w':=by
 have t1:((s.size:Int) != 7)=false:=by simp;omega
 have t2:((s.size:Int)==7)=true:=beq_iff_eq.2 (by omega);have aa:l.length=6:=by have:=pT s;rw[g,qk]at this;omega
 have hc:=Vp g hz;have aj:(0:Int)<(s.size:Int):=by omega
 have S:=qQ fun(j:Nat) (k:j<l.length)=>(⟨by omega,Mo g j k (by omega)⟩:∃hs:j+1<s.size,s[j+1]'hs=l[j])
 have J:=qQ fun(b:∀x∈l,isD x=true)=>Vm c l aa B b
 have L:bs (c::l)=s:=by rw[<-g,Vf]
 rw[L]at J
 have Y:=qQ fun(j:Nat) (k:j<l.length) (f:isD l[j]=false)=>si (s:=s) (fun c' l' e=>by
  rw[g]at e;cases e;rintro ⟨_,_,ha⟩;rw[ha _ (List.getElem_mem k)]at f;cases f)
 have X:=qQ fun(j:Nat) (k:j<=l.length) (b:∀i (a:i<l.length),i<j->isD l[i]=true)=>(by
  have h1:=se (l:=l.take j) (fun x F=>by
   obtain⟨i,a⟩:=List.getElem?_of_mem F;rw[List.getElem?_take]at a;by_cases y:i<j
   ·rw[qV y]at a;obtain⟨O,e⟩:=qP.1 a;rw[<-e];exact b i O y
   ·rw[qZ y]at a;cases a)
  rw[qS]at h1;have:10 ^ min j l.length<=10 ^ 6:=Nat.pow_le_pow_right (by decide) (by omega);omega:dv (l.take j)<=999999)
 obtain⟨K,z⟩:∃K,npK s=K:=⟨_,rfl⟩
 obtain⟨N,A⟩:∃N,npN s=N:=⟨_,rfl⟩
 obtain⟨o,D⟩:∃o,ku s=o:=⟨_,rfl⟩
 rw[z,A,D];have H:=qQ (qU z (qU A D));have T:=qQ (YH c);have U:=qQ B;clear h g z A D L B;go_enter func49,ntmps49;go_wp2_with fail;refine(T.out w).mono ?_;rintro _ _⟨rfl,rfl⟩;rw[U.out];go_wp2;go_loopw [3,16] (fun n i wr=>∃j:Nat,j<=6/\i = .int .i64 (j:Nat)/\n = .int .i64 (dv (l.take j):Nat)/\(∀i (a:i<l.length),i<j->isD l[i]=true)/\w=wr) (fun _ i _=>6-(intOf i).toNat)
 case atStart=>exact⟨0,qF _,rfl,rfl,fun i a h=>absurd h (by omega),rfl⟩
 case round =>
  obtain⟨j,k,rfl,rfl,b,rfl⟩:=hrel;have ae:=X.out j (by omega) b;have G:=qQ b;clear b;by_cases O:j<6
  ·obtain⟨af,ag⟩:=S.out j (by omega);have ai:(1+(j:Int)).toNat=j+1:=(by omega);have ah:(1+(j:Int))<(s.size:Int):=(by omega);have ad:=(l[j]'(by omega)).toNat_lt;cases f:isD (l[j]'(by omega)) with
   | false =>
     have C:=Y.out j (by omega) f;obtain⟨p,q⟩:=p6 C;obtain⟨r,u,v⟩:=H.out;rw[p]at r;rw[q]at u;rw[C]at v;subst r u v;simp only[isD,decide_eq_false_iff_not]at f;have M:(l[j]'(by omega)).toNat<48∨57<(l[j]'(by omega)).toNat:=(by omega);generalize l[j]'(by omega)=d at*;clear f p q C;by_cases ac:d.toNat<48
     ·have Q:decide ((d.toNat:Int)<48)=true:=qA (by omega);clear M;go_wp2;go_ret3;exact⟨rfl,rfl⟩
     ·have Q:decide ((d.toNat:Int)<48)=false:=qW (by omega);have v2:decide ((57:Int)<(d.toNat:Int))=true:=qA (by omega);clear M;go_wp2;go_ret3;exact⟨rfl,rfl⟩
   | true =>
     have W:=qQ (Mw (l:=l) (j:=j) (by omega))
     have I:∀i (a:i<l.length),i<j+1->isD l[i]=true:=fun i a y=>by
      by_cases e:i=j
      ·subst e;exact f
      ·exact G.out i a (by omega)
     have V:=qQ I;simp only[isD,decide_eq_true_eq]at f;generalize l[j]'(by omega)=d at*;obtain⟨d1,d2⟩:=f;have Q:decide ((d.toNat:Int)<48)=false:=qW (by omega);have v2:decide ((57:Int)<(d.toNat:Int))=false:=qW (by omega);generalize dv (l.take j)=m at*;clear I;go_wp2;go_roundw
     case rel=>exact⟨j+1,by omega,by go_num,by rw[W.out];go_num,V.out,trivial⟩
     case measure=>simp[intOf];omega
  ·obtain rfl:j=6:=by omega
   have b:∀x∈l,isD x=true:=fun x F=>by
    obtain⟨i,a⟩:=List.getElem?_of_mem F;obtain⟨ab,Z⟩:=qP.1 a;rw[<-Z];exact G.out i ab (by omega)
   obtain⟨p,q,R⟩:=J.out b;obtain⟨r,u,v⟩:=H.out;rw[q]at r;rw[R]at u;rw[p]at v;have P:l.take 6=l:=qd (by omega);rw[P];subst r u v;clear p q R P b;go_wp2;go_ret3;exact⟨rfl,rfl⟩
theorem No(s:Tw)(w:World)(n:s.size<=maxLen):
  Calls prog 49 #[.string s] w fun e w'=>e = .returned (.tuple #[.int .u8 (npK s:Nat),.int .i64 (npN s:Nat),.bool (ku s)])/\w=w':=by
 by_cases b:s.size=7
 ·cases a:s.data.toList with
  | nil =>
    have:=pT s;rw[a,b]at this;cases this
  | cons c l =>
    cases d:isK c with
    | true=>exact Ni s w (by omega) b c l a d
    | false =>
      obtain⟨g,i⟩:=p6 (si (s:=s) (fun j k e=>by
       rw[a]at e;cases e;rintro ⟨_,h,_⟩;rw[d]at h;cases h))
      have f:=si (s:=s) (fun j k e=>by
       rw[a]at e;cases e;rintro ⟨_,h,_⟩;rw[d]at h;cases h)
      rw[g,i,f];exact Na s w (by omega) b c (Vp a (by omega)) d
 ·have f:=si (s:=s) (fun j k e=>by
   rintro ⟨h,_,_⟩;have:=pT s;rw[e,qk]at this;omega)
  obtain⟨g,i⟩:=p6 f;rw[g,i,f];exact Nt s w n b
theorem Nw: jm where
 chunk:=fun n w _=>Np n w
 table:=fun n w _=>Nr n w
 xr:=fun n w _=>Ns n w
 parse:=fun s w a=>(No s w a).mono (by rintro e w'⟨rfl,rfl⟩;exact⟨rfl,Below.refl _ _⟩)
def jS(p:Tw):Tw:=vE (bs (be 4 p.size)++p)++bs (be 4 p.size)
theorem tZ(s:Tw):(vE s).size=s.size+4:=by unfold vE;rw[qy,ji,nF]
theorem bB(p:Tw):(jS p).size=p.size+12:=by
 unfold jS;rw[qy,tZ,qy,ji,jq];omega
def prS(p:Tw):Tw:=if 2000<p.size then ByteArray.empty else jS p
def prE(p:Tw):Int:=if 2000<p.size then 3 else 0
def kz(s:Tw)(k:Nat):Nat:=jR (s.extract k (k+4))
def uF(s:Tw)(k:Nat):Bool:=decide (k+12<=s.size/\kz s k<=2000/\k+kz s k+12<=s.size/\s.extract k (k+kz s k+12)=jS (s.extract (k+4) (k+4+kz s k)))
def bC(s:Tw)(a:Int):Bool:=decide (0<=a)&&uF s a.toNat
def bz(s:Tw)(a:Int):Tw:=if bC s a=true then s.extract (a.toNat+4) (a.toNat+4+kz s a.toNat) else ByteArray.empty
def vH(s:Tw)(a:Int):Nat:=if bC s a=true then a.toNat+kz s a.toNat+12 else 0
theorem mM(s:Tw)(k:Nat):bC s (k:Nat)=uF s k:=by simp[bC]
theorem YL{s:Tw}{a:Int}(h:bC s a=false):bz s a=ByteArray.empty/\vH s a=0:=by simp[bz,vH,h]
theorem Xw{s:Tw}{k:Nat}(h:uF s k=true):bC s (k:Nat)=true/\bz s (k:Nat)=s.extract (k+4) (k+4+kz s k)/\vH s (k:Nat)=k+kz s k+12:=by
 have e:bC s (k:Nat)=true:=by rw[mM];exact h
 simp[bz,vH,e]
theorem pd{s:Tw}{k:Nat}:uF s k=true↔(k+12<=s.size/\kz s k<=2000/\k+kz s k+12<=s.size/\s.extract k (k+kz s k+12)=jS (s.extract (k+4) (k+4+kz s k))):=by simp[uF]
theorem nc{s:Tw}{k:Nat}(h:¬(k+12<=s.size/\kz s k<=2000/\k+kz s k+12<=s.size/\s.extract k (k+kz s k+12)=jS (s.extract (k+4) (k+4+kz s k)))):uF s k=false:=by
 cases e:uF s k with
 | false=>rfl
 | true=>exact absurd (pd.1 e) h
theorem YM(s:Tw)(a:Int):vH s a<=s.size:=by
 unfold vH;by_cases h:bC s a=true
 ·rw[qV h];have b:uF s a.toNat=true:=by simp[bC]at h;exact h.2
  have:=pd.1 b;omega
 ·rw[qZ h];exact qF _
theorem tJ{s:Tw}{k:Nat}(h:uF s k=true):k+12<=vH s (k:Nat)/\vH s (k:Nat)<=s.size:=by
 obtain⟨_,_,e⟩:=Xw h;have:=pd.1 h;rw[e];omega
def whL(s:Tw):Nat->Nat->List Int
 | 0,_=>[]
 | n+1,k=>if uF s k=true then(k:Int)::whL s n (vH s (k:Nat)) else []
def whE(s:Tw):Nat->Nat->Nat
 | 0,k=>k
 | n+1,k=>if uF s k=true then whE s n (vH s (k:Nat)) else k
def wlL(s:Tw)(a:Int):List Int:=if 0<=a/\a<=s.size then whL s (s.size+1) a.toNat else []
def wlE(s:Tw)(a:Int):Nat:=if 0<=a/\a<=s.size then whE s (s.size+1) a.toNat else 0
theorem YN(s:Tw):∀(n m k:Nat),s.size<k+n->s.size<k+m->k<=s.size->whL s n k=whL s m k/\whE s n k=whE s m k
 | 0,m,k,h1,h2,hk=>by omega
 | n+1,0,k,h1,h2,hk=>by omega
 | n+1,m+1,k,h1,h2,hk=>by
   unfold whL whE;by_cases h:uF s k=true
   ·have hl:=tJ h;obtain⟨a,b⟩:=YN s n m (vH s (k:Nat)) (by omega) (by omega) (by omega);rw[qV h,qV h,qV h,qV h,a,b];exact⟨rfl,rfl⟩
   ·rw[qZ h,qZ h,qZ h,qZ h];exact⟨rfl,rfl⟩
theorem YO{s:Tw}{k:Nat}(c:k<=s.size)(h:uF s k=true):
  whL s (s.size+1) k=(k:Int)::whL s (s.size+1) (vH s (k:Nat))/\whE s (s.size+1) k=whE s (s.size+1) (vH s (k:Nat)):=by
 have d:=tJ h;obtain⟨a,b⟩:=YN s s.size (s.size+1) (vH s (k:Nat)) (by omega) (by omega) (by omega);constructor
 ·rw[whL,qV h,a]
 ·rw[whE,qV h,b]
theorem YP{s:Tw}{k:Nat}(h:uF s k=false):whL s (s.size+1) k=[]/\whE s (s.size+1) k=k:=by
 constructor
 ·rw[whL,qZ (by rw[h];decide)]
 ·rw[whE,qZ (by rw[h];decide)]
def pf(w:World)(e:Ending)(w':World):Prop:=e = .returned (.tuple #[.string ByteArray.empty,.int .i64 0,.bool false])/\Below w.heap.size w w'
theorem YR{a b:Tw}(h:a=b):(a.toList==b.toList)=true:=by rw[h,beq_iff_eq]
theorem OQ{a b:Tw}(h:¬a=b):(a.toList != b.toList)=true:=by
 rw[bne_iff_ne];intro x;rw[Lib.toList_data,Lib.toList_data]at x;exact h (ByteArray.ext (Array.toList_inj.1 x))
def l7(s:Tw)(a:Int)(w:World)(e:Ending)(w':World):Prop:=e = .returned (.tuple #[.string (bz s a),.int .i64 (vH s a:Nat),.bool (bC s a)])/\Below w.heap.size w w'
theorem ph{s:Tw}{a:Int}{w w':World}{e:Ending}(h:bC s a=false)(d:pf w e w'):l7 s a w e w':=by
 obtain⟨b,c⟩:=YL h;unfold l7;rw[b,c,h];exact d
def tK(n:Int):Value:=.int .i64 n
theorem kX.xL{w:World}{base:Nat}{e:TypeId}{v:Value}{l:List Int}(h:w.ownsRow base e 1 v l.length (l.map tK)):kX w v l:=by
 have b:=h;rcases h.2 with⟨a,f⟩|⟨g,d,o,a,p,j,n,k,r,s⟩
 ·exact qX ⟨List.length_eq_zero_iff.1 f,none,0,a⟩
 ·refine qY ⟨g,0,d,a,n,k,(qm.1 j).1,fun i x c=>?_⟩;rw[a]at b;have q:i<l.length:=(qP.1 c).1;rw[Nat.zero_add,b.cellAt i (by omega),qu,c];rfl
theorem OX{w:World}{base n size:Nat}{e:TypeId}{v:Value}{xs:List Value}(h:w.ownsRow base e size v n xs):∀k,v.ownBlock=some k->base<=k:=by
 intro k a;rcases h.2 with⟨rfl,_⟩|⟨g,c,d,rfl,b,_⟩
 ·cases a
 ·cases a;exact b
def nd(s:Tw)(a:Int)(w:World)(e:Ending)(w':World):Prop:=∃u,e = .returned (.tuple #[u,.int .i64 (wlE s a:Nat)])/\kX w' u (wlL s a)/\Below w.heap.size w w'
theorem fj(a x b:Tw){i j:Nat}(hi:i=a.size)(d:j=a.size+x.size):(a++x++b).extract i j=x:=by
 subst hi d;rw[ByteArray.append_assoc];apply ByteArray.ext;apply Array.toList_inj.1;have c:a.data.toList.length=a.size:=Array.length_toList;have f:x.data.toList.length=x.size:=Array.length_toList;rw[ByteArray.data_extract,Array.toList_extract,List.extract];simp only[ByteArray.data_append,Array.toList_append];rw[List.drop_left' c,Nat.add_sub_cancel_left,List.take_left' f]
theorem YS(p:Tw):jS p=bs (be 4 p.size)++(p++(bs (yQ (bs (be 4 p.size)++p).data.toList)++bs (be 4 p.size))):=by
 unfold jS vE;simp only[ByteArray.append_assoc]
theorem OZ(n:Nat)(h:n<4294967296):jR (bs (be 4 n))=n:=by
 unfold jR;have:(bs (be 4 n)).data.toList=be 4 n:=by simp[bs]
 rw[this,qd (by rw[jq];omega),cj];exact Nat.mod_eq_of_lt (by omega)
theorem OJ(a p b:Tw)(c:p.size<=2000):kz (a++jS p++b) a.size=p.size:=by
 unfold kz
 have e:a++jS p++b=a++bs (be 4 p.size)++((p++(bs (yQ (bs (be 4 p.size)++p).data.toList)++bs (be 4 p.size)))++b):=by
  rw[YS];simp only[ByteArray.append_assoc]
 rw[e,fj _ _ _ rfl (by rw[ji,jq]),OZ _ (by omega)]
theorem OV(a p b:Tw):(a++jS p++b).extract (a.size+4) (a.size+4+p.size)=p:=by
 have e:a++jS p++b=(a++bs (be 4 p.size))++p++((bs (yQ (bs (be 4 p.size)++p).data.toList)++bs (be 4 p.size))++b):=by
  rw[YS];simp only[ByteArray.append_assoc]
 rw[e];exact fj _ _ _ (by rw[qy,ji,jq]) (by rw[qy,ji,jq])
theorem YT(a p b:Tw)(g:p.size<=2000):uF (a++jS p++b) a.size=true/\bz (a++jS p++b) (a.size:Nat)=p/\vH (a++jS p++b) (a.size:Nat)=a.size+(p.size+12):=by
 have c:=OJ a p b g;have d:=OV a p b;have k:(a++jS p++b).size=a.size+(p.size+12)+b.size:=by rw[qy,qy,bB]
 have f:uF (a++jS p++b) a.size=true:=by
  rw[pd,c,d];refine⟨by omega,g,by omega, ?_⟩;exact fj _ _ _ rfl (by rw[bB];omega)
 obtain⟨_,i,j⟩:=Xw f;refine⟨f, ?_, ?_⟩
 ·rw[i,c,d]
 ·rw[j,c];omega
def hdT(n:Nat):Tw:=⟨#[99,104,110,107]⟩++bs (be 4 n)
def hdS(n:Int):Tw:=if 0<=n/\n<=199 then vE (hdT n.toNat) else ByteArray.empty
theorem ZQ{n:Int}(h:¬(0<=n/\n<=199)):hdS n=ByteArray.empty:=by unfold hdS;rw[qZ h]
theorem Y0{n:Nat}(h:n<=199):hdS (n:Nat)=vE (hdT n):=by unfold hdS;rw[qV (by omega),qh]
theorem Y4(n:Nat):(hdT n).size=8:=by unfold hdT;rw[qy,ji,jq];rfl
theorem mN{n:Nat}(h:n<=199):(hdS (n:Nat)).size=12:=by rw[Y0 h,tZ,Y4]
def scK(s:Tw)(n:Int):Nat:=if ¬(0<=n/\n<=199) then 0 else if ¬s.extract 0 (min s.size 12)=(hdS n).extract 0 (min s.size 12) then 0 else if s.size<12 then 1 else 2
def scL(s:Tw)(n:Int):List Int:=if scK s n=2 then wlL s 12 else []
def scE(s:Tw)(n:Int):Nat:=if scK s n=2 then wlE s 12 else 0
def bD(s:Tw)(n:Int):Bool:=decide (¬scK s n=0)
theorem OY{s:Tw}{n:Int}(h:scK s n=0):scL s n=[]/\scE s n=0/\bD s n=false:=by simp[scL,scE,bD,h]
theorem OU{s:Tw}{n:Int}(h:scK s n=1):scL s n=[]/\scE s n=0/\bD s n=true:=by simp[scL,scE,bD,h]
theorem Y5{s:Tw}{n:Int}(h:scK s n=2):scL s n=wlL s 12/\scE s n=wlE s 12/\bD s n=true:=by simp[scL,scE,bD,h]
theorem OG{s:Tw}{n:Int}(h:¬(0<=n/\n<=199)):scK s n=0:=by unfold scK;rw[qV h]
theorem OW{s:Tw}{n:Int}(h:0<=n/\n<=199)(a:¬s.extract 0 (min s.size 12)=(hdS n).extract 0 (min s.size 12)):scK s n=0:=by unfold scK;rw[qZ (by omega),qV a]
theorem OA{s:Tw}{n:Int}(h:0<=n/\n<=199)(a:s.extract 0 (min s.size 12)=(hdS n).extract 0 (min s.size 12))(b:s.size<12):scK s n=1:=by unfold scK;rw[qZ (by omega),qZ (by simp[a]),qV b]
theorem Y6{s:Tw}{n:Int}(h:0<=n/\n<=199)(a:s.extract 0 (min s.size 12)=(hdS n).extract 0 (min s.size 12))(b:¬s.size<12):scK s n=2:=by unfold scK;rw[qZ (by omega),qZ (by simp[a]),qZ b]
def ftS(size:Int)(p:Tw):Bool:=decide (p.size<=2000/\0<=size/\size<=4096/\size+(p.size:Int)+12<=4096)
def mO(s:Tw)(n:Int)(w:World)(e:Ending)(w':World):Prop:=∃u,e = .returned (.tuple #[u,.int .i64 (scE s n:Nat),.bool (bD s n)])/\kX w' u (scL s n)/\Below w.heap.size w w'
theorem ZX{H:Tw}(a:H.size=12):¬H.toList=[]/\(H.toList==[])=false:=by
 have:¬H.toList=[]:=fun e=>by
  have h:H=ByteArray.empty:=ByteArray.ext (Array.toList_inj.1 (by rw[<-Lib.toList_data,e];rfl));rw[h]at a;cases a
 exact⟨this,by rw[qv];exact this⟩
def pn(w:World)(e:Ending)(w':World):Prop:=∃u,e = .returned (.tuple #[u,.int .i64 0,.bool false])/\kX w' u []/\Below w.heap.size w w'
def ZZ(w:World)(e:Ending)(w':World):Prop:=∃u,e = .returned (.tuple #[u,.int .i64 0,.bool true])/\kX w' u []/\Below w.heap.size w w'
end
section
structure jN where
 qp:Nat
 chunks:Nat
 endp:Nat
 sure:Nat
abbrev nmC(n:Nat):Tw:=nmS 99 (n:Nat)
def jj: Tw:=⟨#[110,101,119]⟩
def stR(r:Nat->Nat):Nat->Nat->Nat × Nat
 | 0,k=>(0,k)
 | n+1,k=>if r k=0 then stR r n (k+1) else(r k,k+1)
def vq(D:jK)(L:jN):Nat:=if D.down then 61 else if D.qp=L.qp then 0 else 61
def rdC(D:jK)(n:Tw):Tw × Nat × jK:=if (jH D n).2=0 then kK D n 0 ((jH D n).1:Nat) else(ByteArray.empty,(jH D n).2,D)
def vA(D:jK)(L:jN):Nat × jK × jN :=
 if L.chunks=0 then(0,D, { L with sure:=L.endp }) else
 if (jc D (nmC (L.chunks-1))).1=0 then(0,(jc D (nmC (L.chunks-1))).2, { L with sure:=L.endp }) else((jc D (nmC (L.chunks-1))).1,(jc D (nmC (L.chunks-1))).2,L)
def uJ(D:jK)(L:jN)(p:Tw):Nat × Nat × Nat :=
 if L.chunks=0 then(0,12,0) else
 if (jH D (nmC (L.chunks-1))).2=0 then(if ftS ((jH D (nmC (L.chunks-1))).1:Nat) p=true then(L.chunks-1,(jH D (nmC (L.chunks-1))).1,0) else(L.chunks,12,0))
 else(0,0,(jH D (nmC (L.chunks-1))).2)
def dr(D:jK)(s:Tw):Bool:=decide (6000<=(D.cap:Int)-(jA D.l:Nat)-(s.size:Nat))
def yx(a:Nat × jK × jN)(f:jK->jN->Nat × jK × jN):Nat × jK × jN:=if a.1=0 then f a.2.1 a.2.2 else a
def onD(f:jK->Nat × jK)(D:jK)(L:jN):Nat × jK × jN:=((f D).1,(f D).2,L)
def ch(D:jK)(L:jN)(r:Tw):Nat × jK × jN :=
 if 200<=L.chunks∨dr D (hdS (L.chunks:Nat)++r)=false then(60,D,L) else
 yx (yx (vA D L) (onD fun E=>jP E (nmC L.chunks))) (onD fun E=>j9 E (nmC L.chunks) (hdS (L.chunks:Nat)++r))
def gI(D:jK)(L:jN)(r:Tw):Nat × jK:=if dr D r=false then(60,D) else j9 D (nmC (L.chunks-1)) r
def bu(D:jK)(L:jN)(p:Tw):Nat × Nat × jK × jN :=
 if vq D L≠0 then(0,vq D L,D,L) else
 if 2000<p.size then(0,3,D,L) else
 if (uJ D L p).2.2≠0 then(0,(uJ D L p).2.2,D,L) else
 let n:=(uJ D L p).1
 let a:=(uJ D L p).2.1
 let r:=if n=L.chunks then ch D L (jS p) else onD (fun E=>gI E L (jS p)) D L
 if r.1≠0 then(0,r.1,r.2.1,r.2.2) else(4096*n+a,0,r.2.1, { r.2.2 with chunks:=n+1,endp:=4096*n+a+(jS p).size })
def vl(D:jK)(L:jN):Nat × jK × jN:=if vq D L≠0 then(vq D L,D,L) else vA D L
def ZJ(D:jK)(n:Tw)(a:Nat):Tw × Nat × jK :=
 if (jH D n).2≠0 then(ByteArray.empty,(jH D n).2,D) else
 if (jH D n).1<a+12 then(ByteArray.empty,4,D) else
 let b:=kK D n (a:Nat) 4
 if b.2.1≠0 then(ByteArray.empty,b.2.1,b.2.2) else
 if 2000<jR b.1∨(jH D n).1<a+12+jR b.1 then(ByteArray.empty,4,b.2.2) else
 let c:=kK b.2.2 n (a:Nat) ((jR b.1+12:Nat):Int)
 if c.2.1≠0 then(ByteArray.empty,c.2.1,c.2.2) else
 if bC c.1 0=true then(bz c.1 0,0,c.2.2) else(ByteArray.empty,4,c.2.2)
def tV(D:jK)(L:jN)(pos:Int):Tw × Nat × jK :=
 if vq D L≠0 then(ByteArray.empty,vq D L,D) else
 if pos<0∨(L.chunks:Int)<=pos/4096∨pos%4096<12 then(ByteArray.empty,4,D) else ZJ D (nmC (pos/4096).toNat) (pos%4096).toNat
structure nf where
 p:Tw
 at_ : Int
 next:Int
 e:Nat
 D:jK
def gL: Nat->Nat->jK->Int->nf
 | 0,_,D,_=>⟨ByteArray.empty,0,0,4,D⟩
 | k+1,n,D,pos =>
   if (rdC D (nmC n)).2.1≠0 then⟨ByteArray.empty,0,0,(rdC D (nmC n)).2.1,(rdC D (nmC n)).2.2⟩ else
   match (scL (rdC D (nmC n)).1 (n:Nat)).find? (fun x=>decide (pos<=(n:Int)*4096+x)) with
   | none=>gL k (n+1) (rdC D (nmC n)).2.2 pos
   | some x=>⟨bz (rdC D (nmC n)).1 x,(n:Int)*4096+x,(n:Int)*4096+(vH (rdC D (nmC n)).1 x:Nat),0,(rdC D (nmC n)).2.2⟩
def tY(D:jK)(L:jN)(pos:Int):nf :=
 if vq D L≠0 then⟨ByteArray.empty,0,0,vq D L,D⟩ else
 gL (L.chunks-(max pos 0/4096).toNat) (max pos 0/4096).toNat D pos
def ve(D:jK):Nat × jK:=if (j6 D jj).1=4 then(0,(j6 D jj).2) else j6 D jj
def isC(s:Tw):Bool:=ku s&&npK s==99
def yP: List Tw->Nat->Nat × Nat
 | [],c=>(0,c)
 | s::r,c=>if isC s=true then(if npN s≠c∨200<=npN s then(63,c) else yP r (c+1)) else yP r c
def uH(D:jK)(L:jN):Nat × jK × jN:=((yP (D.l.map jU.name) L.chunks).1,D, { L with chunks:=(yP (D.l.map jU.name) L.chunks).2 })
def dt(a:Nat × jK)(f:jK->Nat × jK):Nat × jK:=if a.1=0 then f a.2 else a
def l8(D:jK)(n s:Tw):Nat × jK:=dt (dt (dt (jP D jj) fun E=>j9 E jj s) fun E=>jc E jj) fun E=>vD E jj n
def fk(D:jK)(L:jN)(n:Nat)(s:Tw)(e:Nat):Nat × jK × jN :=
 if s.size<12 then((j6 D (nmC n)).1,(j6 D (nmC n)).2, { L with chunks:=n }) else
 if e<s.size then onD (fun E=>l8 E (nmC n) (s.extract 0 e)) D { L with endp:=4096*n+e } else onD (fun E=>jc E (nmC n)) D { L with endp:=4096*n+e }
def uK: Nat->Nat->jK->jN->Nat × jK × jN
 | 0,_,D,L=>(0,D,L)
 | k+1,n,D,L =>
   if (rdC D (nmC n)).2.1≠0 then((rdC D (nmC n)).2.1,(rdC D (nmC n)).2.2,L) else
   if bD (rdC D (nmC n)).1 (n:Nat)=false then(63,(rdC D (nmC n)).2.2,L) else
   if k=0 then fk (rdC D (nmC n)).2.2 L n (rdC D (nmC n)).1 (scE (rdC D (nmC n)).1 (n:Nat)) else
   if (rdC D (nmC n)).1.size<12∨scE (rdC D (nmC n)).1 (n:Nat)<(rdC D (nmC n)).1.size then(63,(rdC D (nmC n)).2.2,L) else
   uK k (n+1) (rdC D (nmC n)).2.2 { L with endp:=4096*n+scE (rdC D (nmC n)).1 (n:Nat) }
def di(D:jK)(L:jN):Nat × jK × jN:=uK L.chunks 0 D L
def uo(D:jK):Nat × jK × jN:=yx (yx (onD ve D ⟨D.qp,0,0,0⟩) uH) di
theorem Y7{D:jK}{n:Tw}{f:jU}(b:D.down=false)(h:jW D.l n=some f):rdC D n=(f.data,0, { D with count:=D.count+1 }):=by
 unfold rdC;rw[nP b h,qV rfl];have:=sz (a:=0) (k:=f.data.size) b h (by omega);rw[Nat.zero_add]at this
 have e:f.data.extract 0 f.data.size=f.data:=by
  apply ByteArray.ext;rw[ByteArray.data_extract];exact Array.extract_size
 rw[e]at this;exact this
end
end Go.Proofs.YtokbfellcadkpaaGreat

/- ZnSealOne, ZnOpenOne, ZnSealed, ZnPgMath, ZnPgMem, ZnPgMay, ZnMfMath, ZnMfTake, ZnRecMath, ZnRecGetRef, ZnRecWholeRef, ZnRecStands, ZnRecSize, ZnRecGet, ZnEventsOne, ZnEventsReadOne -/
import Derived.Test.YtokbfellcadkpaaGreatPn03
import Derived.Deep.RegionHeld3
import Derived.Lib.IndexBytes
import Derived.Test.YtokbfellcadkpaaGreatPn02
import Derived.Test.YtokbfellcadkpaaGreatPn01
import Derived.Maps.RangeWalk
import Derived.Deep.WholeRow
import Derived.Lib.Hide
import Derived.WalkMore
import Derived.WalkArith
import Derived.Maps.AppendAt
import Derived.RegionTactic
namespace Go.Proofs.YtokbfellcadkpaaGreat
set_option maxRecDepth 100000
set_option linter.unusedVariables false
section
open Go.RowKit
theorem and_split (i a b c d:Nat)(hb:b<2 ^ i)(hd:d<2 ^ i) : (2 ^ i*a+b)&&&(2 ^ i*c+d)=2 ^ i*(a&&&c)+(b&&&d):=by
 apply Nat.eq_of_testBit_eq;intro j;rw[Nat.testBit_and,Nat.testBit_two_pow_mul_add a hb,Nat.testBit_two_pow_mul_add c hd,Nat.testBit_two_pow_mul_add (a&&&c) (Nat.and_lt_two_pow b hd)];split<;>rw[Nat.testBit_and]
theorem or_split (i a b c d:Nat)(hb:b<2 ^ i)(hd:d<2 ^ i) : (2 ^ i*a+b)|||(2 ^ i*c+d)=2 ^ i*(a|||c)+(b|||d):=by
 apply Nat.eq_of_testBit_eq;intro j;rw[Nat.testBit_or,Nat.testBit_two_pow_mul_add a hb,Nat.testBit_two_pow_mul_add c hd,Nat.testBit_two_pow_mul_add (a|||c) (Nat.or_lt_two_pow hb hd)];split<;>rw[Nat.testBit_or]
theorem mask_ff (x:Nat) : x&&&16711935=65536*(x/65536%256)+x%256:=by
 have h:=and_split 16 (x/65536) (x%65536) 255 255 (Nat.mod_lt _ (by decide)) (by decide);have e1:(2:Nat) ^ 16*(x/65536)+x%65536=x:=by omega
 have e2:(2:Nat) ^ 16*255+255=16711935:=by decide
 rw[e1,e2,nat_mask8,nat_mask8] at h;rw[h];omega
theorem or_pair (a b:Nat)(hb:b<256) : b|||(256*a)=256*a+b:=by
 rw[Nat.or_comm];exact nat_join 8 (256*a) b (by omega) (by omega)
def revN (n:Nat) : Nat:=16777216*(n%256)+65536*(n/256%256)+256*(n/65536%256)+n/16777216%256
theorem revN_lt (n:Nat) : revN n<4294967296:=by unfold revN;omega
theorem be_rev (n:Nat)(hn:n<4294967296) : be 4 (revN n)=(be 4 n).reverse:=by
 have e:un (be 4 n).reverse=revN n:=by
  have p1:(256:Nat) ^ 1=256:=by decide
  have p2:(256:Nat) ^ 2=65536:=by decide
  have p3:(256:Nat) ^ 3=16777216:=by decide
  simp only[p1,p2,p3,Nat.pow_zero,Nat.div_one,be,List.reverse_cons,List.reverse_nil,List.nil_append,List.cons_append,un,List.foldl_cons,List.foldl_nil,UInt8.toNat_ofNat'];unfold revN;omega
 have h:=be_un (be 4 n).reverse;rw[List.length_reverse,be_length,e] at h;exact h
theorem rev_one (n:Nat)(hn:n<4294967296) : bits .or .u32 (bits .and .u32 ((n:Int)/256) 16711935) (bits .and .u32 (n:Int) 16711935*256%4294967296) =
  ((16777216*(n/65536%256)+65536*(n/16777216%256)+256*(n%256)+n/256%256:Nat):Int):=by
 have h0:(n:Int)/256=((n/256:Nat):Int):=by omega
 have h1:bits .and .u32 ((n/256:Nat):Int) 16711935=((n/256&&&16711935:Nat):Int):=u32_and_nat _ _ (by omega) (by decide);have h2:bits .and .u32 (n:Int) 16711935=((n&&&16711935:Nat):Int):=u32_and_nat _ _ hn (by decide);rw[h0,h1,h2,mask_ff,mask_ff];have e3:n/256/65536%256=n/16777216%256:=by omega
 have e4:n%256<256:=Nat.mod_lt _ (by decide);have e5:n/256%256<256:=Nat.mod_lt _ (by decide);have e6:n/65536%256<256:=Nat.mod_lt _ (by decide);have e7:n/16777216%256<256:=Nat.mod_lt _ (by decide);rw[e3];generalize n%256=a at *;generalize n/256%256=b at *;generalize n/65536%256=c at *;generalize n/16777216%256=d at *;have h3:((65536*c+a:Nat):Int)*256%4294967296=((65536*(256*c)+256*a:Nat):Int):=by omega
 rw[h3];have h4:=u32_or_nat (65536*d+b) (65536*(256*c)+256*a) (by omega) (by omega);rw[h4];have h5:=or_split 16 d b (256*c) (256*a) (by omega) (by omega);rw[or_pair c d (by omega),or_pair a b (by omega)] at h5;have e8:(2:Nat) ^ 16=65536:=by decide
 rw[e8] at h5;rw[h5];omega
theorem rev_two (m:Nat)(hm:m<4294967296) : bits .or .u32 ((m:Int)/65536) ((m:Int)*65536%4294967296)=((m%65536*65536+m/65536:Nat):Int):=by
 have h0:(m:Int)/65536=((m/65536:Nat):Int):=by omega
 have h1:(m:Int)*65536%4294967296=((m%65536*65536:Nat):Int):=by omega
 rw[h0,h1,u32_or_nat _ _ (by omega) (by omega),Nat.or_comm];rw[nat_join 16 _ _ (by omega) (by omega)]
set_option maxHeartbeats 400000 in
theorem rev_any (n:Nat)(w:World)(hn:n<4294967296) :
  Calls Tryz.prog 216 #[.int .u32 (n:Nat)] w fun e w'=>e = .returned (.int .u32 (revN n:Nat))∧w=w':=by
 have h1:=Lib.hid (rev_one n hn);go_enter Tryz.func216,Tryz.ntmps216;go_wp2;go_ret;refine⟨ret_int ?_,rfl⟩;rw[h1.out,rev_two _ (by omega)];unfold revN;omega
theorem put_four (n:Nat)(w:World)(hn:n<4294967296) :
  Calls Tryz.prog 58 #[.int .u64 (revN n:Nat),.int .i64 4] w fun e w'=>e = .returned (.string (bs (be 4 n).reverse))∧Below w.heap.size w w':=by
 rw[← be_rev n hn];exact put_some (revN n) 4 w (by omega) (by omega) (by have:=revN_lt n;omega)
set_option maxHeartbeats 400000 in
theorem tail_any (s:ByteArray)(w:World)(hs:s.size≤maxLen) :
  Calls Tryz.prog 179 #[.string s] w fun e w'=>e = .returned (.string (bs (tailS s.data.toList)))∧Below w.heap.size w w':=by
 have h1:=Lib.hid (fun w=>sum_any s w hs);have hl:=sumS_lt s.data.toList;unfold tailS;generalize sumS s.data.toList=n at *;have h2:=Lib.hid (fun w=>rev_any n w hl);have h3:=Lib.hid (fun w=>put_four n w hl);have hr:=revN_lt n;generalize revN n=m at *;generalize bs (be 4 n).reverse=t at *;unfold maxLen at hs;go_enter Tryz.func179,Tryz.ntmps179;go_wp2_with fail;refine(h1.out _).mono ?_;rintro e w' ⟨rfl,rfl⟩;go_wp2_with fail;refine(h2.out _).mono ?_;rintro e w' ⟨rfl,rfl⟩;go_wp2_with fail;refine(h3.out _).mono ?_;rintro e w' ⟨rfl,hb⟩;go_wp2;go_ret;exact⟨rfl,hb⟩
def sealS (s:ByteArray) : ByteArray:=s++bs (tailS s.data.toList)
theorem add_four (s:ByteArray)(h:s.size+4≤maxLen)(l:List UInt8)(hl:l.length=4)(w:World) : (Op.stringOp .add s (bs l)).run Tryz.prog w = .ok (.string (s++bs l)) w :=
 run_string_add_sum (P:=Tryz.prog) (w:=w) s (bs l) (by rw[bs_size,hl];exact h)
set_option maxHeartbeats 400000 in
theorem seal_any (s:ByteArray)(w:World)(hs:s.size+4≤maxLen) :
  Calls Tryz.prog 124 #[.string s] w fun e w'=>e = .returned (.string (sealS s))∧Below w.heap.size w w':=by
 have h1:=Lib.hid (fun w=>tail_any s w (by omega));have ha:=add_four s hs _ (tailS_length s.data.toList);unfold sealS;generalize tailS s.data.toList=t at *;unfold maxLen at hs;go_enter Tryz.func124,Tryz.ntmps124;go_wp2_with fail;refine(h1.out _).mono ?_;rintro e w' ⟨rfl,hb⟩;go_wp2;go_ret;exact⟨rfl,hb⟩
def opOk (s:ByteArray) : Bool:=decide (4≤s.size∧s.extract (s.size-4) s.size=bs (tailS (s.extract 0 (s.size-4)).data.toList))
def opA (s:ByteArray) : ByteArray:=if opOk s=true then s.extract 0 (s.size-4) else ByteArray.empty
theorem list_eq {a b:ByteArray}(h:a=b) : (a.toList==b.toList)=true:=by rw[h,beq_iff_eq]
theorem list_ne {a b:ByteArray}(h:¬ a=b) : (a.toList==b.toList)=false:=by
 rw[beq_eq_false_iff_ne];intro x;rw[Lib.toList_data,Lib.toList_data] at x;exact h (ByteArray.ext (Array.toList_inj.1 x))
set_option maxHeartbeats 400000 in
theorem open_at (s:ByteArray)(w:World)(hs:s.size≤maxLen)(h4:4≤s.size)(T:ByteArray)
  (ht:∀ W,Below w.heap.size w W→Calls Tryz.prog 179 #[.string (s.extract 0 (s.size-4))] W fun e w'=>e = .returned (.string T)∧Below w.heap.size w w') :
  Calls Tryz.prog 151 #[.string s] w fun e w'=>e = .returned (.tuple #[.string (if s.extract (s.size-4) s.size=T then s.extract 0 (s.size-4) else ByteArray.empty),.bool (decide (s.extract (s.size-4) s.size=T))])∧Below w.heap.size w w':=by
 have Ht:=Lib.hid ht;clear ht;unfold maxLen at hs;have d1:decide ((s.size:Int)-4<0)=false:=by simp;omega
 have x1:(0:Int)≤(s.size:Int)-4:=by omega
 have x4:(4:Int)≤(s.size:Int):=by omega
 have x2:(s.size:Int)-4≤s.size:=by omega
 have x3:((s.size:Int)-4).toNat=s.size-4:=by omega
 by_cases hT:s.extract (s.size-4) s.size=T
 ·have he:=list_eq hT.symm;rw[if_pos hT,decide_eq_true hT];have HT:=Lib.hid hT;clear hT;go_enter Tryz.func151,Tryz.ntmps151;go_wp2_with fail
  go_region_held3 (fun w'=>Below w.heap.size w w') (first | assumption | exact(Below.refl _ _).drew) ((go_at_call 179;refine(Ht.out _ (by assumption)).mono ?_;rintro e w' ⟨rfl,hb⟩))
  go_wp2;go_ret2;exact⟨rfl,‹Below _ _ _›⟩
 ·have he:=list_ne (fun h:T=s.extract (s.size-4) s.size=>hT h.symm);rw[if_neg hT,decide_eq_false hT];have HT:=Lib.hid hT;clear hT;go_enter Tryz.func151,Tryz.ntmps151;go_wp2_with fail
  go_region_held3 (fun w'=>Below w.heap.size w w') (first | assumption | exact(Below.refl _ _).drew) ((go_at_call 179;refine(Ht.out _ (by assumption)).mono ?_;rintro e w' ⟨rfl,hb⟩))
  go_wp2;go_ret2;exact⟨rfl,‹Below _ _ _›⟩
theorem open_any (s:ByteArray)(w:World)(hs:s.size≤maxLen) :
  Calls Tryz.prog 151 #[.string s] w fun e w'=>e = .returned (.tuple #[.string (opA s),.bool (opOk s)])∧Below w.heap.size w w':=by
 by_cases h4:4≤s.size
 ·have h:=open_at s w hs h4 (bs (tailS (s.extract 0 (s.size-4)).data.toList)) (fun W hW=>(tail_any _ W (by unfold maxLen at *;rw[ByteArray.size_extract];omega)).mono fun e w' ⟨he,hb⟩=>⟨he,hW.trans (hb.mono hW.size)⟩);have e1:opOk s=decide (s.extract (s.size-4) s.size=bs (tailS (s.extract 0 (s.size-4)).data.toList)):=by simp[opOk,h4]
  have e2:opA s=if s.extract (s.size-4) s.size=bs (tailS (s.extract 0 (s.size-4)).data.toList) then s.extract 0 (s.size-4) else ByteArray.empty:=by
   unfold opA;rw[e1];simp
  rw[e1,e2];exact h
 ·have e1:opOk s=false:=by simp[opOk,h4]
  have e2:opA s=ByteArray.empty:=by simp[opA,e1]
  rw[e1,e2];clear e1 e2;unfold maxLen at hs;have d1:decide ((s.size:Int)-4<0)=true:=by simp;omega
  go_enter Tryz.func151,Tryz.ntmps151;go_wp2_with fail;go_quiet (fail);go_wp2;go_ret2;exact⟨rfl,below_drewN (Below.refl _ _) _⟩
end
section
theorem sl_list (l:List UInt8) : (bs l).data.toList=l:=by simp[bs]
theorem sl_size (s:ByteArray) : s.data.toList.length=s.size:=Array.length_toList
theorem sl_ext (s:ByteArray)(a b:Nat) : (s.extract a b).data.toList=(s.data.toList.drop a).take (b-a):=by simp
theorem sl_extbs (s:ByteArray)(a b:Nat) : s.extract a b=bs ((s.data.toList.drop a).take (b-a)):=by rw[← sl_ext,bs_data]
theorem seal_list (s:ByteArray) : (sealS s).data.toList=s.data.toList++tailS s.data.toList:=by simp[sealS,bs]
theorem seal_size (s:ByteArray) : (sealS s).size=s.size+4:=by rw[← sl_size,seal_list,List.length_append,tailS_length,sl_size]
theorem opOk_seal (s:ByteArray) : opOk (sealS s)=true:=by
 unfold opOk;refine decide_eq_true ⟨by rw[seal_size];omega, ?_⟩
 have e1:(sealS s).extract 0 ((sealS s).size-4)=s:=by
  rw[sl_extbs,seal_size,seal_list];have:s.data.toList.length=s.size:=sl_size s;rw[List.drop_zero,show s.size+4-4-0=s.data.toList.length by omega,List.take_left,bs_data]
 rw[e1,sl_extbs,seal_size,seal_list];have:s.data.toList.length=s.size:=sl_size s;rw[show s.size+4-4=s.data.toList.length by omega,List.drop_left,List.take_of_length_le (by rw[tailS_length];omega)]
def pgOk (n p:Int) : Bool:=decide (60≤n∧n≤120000∧n%60=0∧1≤p∧p≤16)
theorem pgOk_iff {n p:Int} : pgOk n p=true↔60≤n∧n≤120000∧n%60=0∧1≤p∧p≤16:=by unfold pgOk;exact decide_eq_true_iff
def hdL (n p:Nat) : List UInt8:=[98,108,109,UInt8.ofNat p]++(be 4 n++List.replicate 52 0)
theorem hdL_length (n p:Nat) : (hdL n p).length=60:=by simp[hdL,be_length]
def hdP (n p:Nat) : ByteArray:=sealS (bs (hdL n p))
theorem hdP_size (n p:Nat) : (hdP n p).size=64:=by unfold hdP;rw[seal_size,bs_size,hdL_length]
def pgT (t:ByteArray)(j:Nat) : ByteArray:=t.extract (64*j) (64*j+64)
def pgW (t:ByteArray)(j:Nat) : Bool:=decide (64*j+64≤t.size)&&opOk (pgT t j)
theorem pgT_list (t:ByteArray)(j:Nat) : (pgT t j).data.toList=(t.data.toList.drop (64*j)).take 64:=by unfold pgT;rw[sl_ext,show 64*j+64-64*j=64 by omega]
theorem pgT_at (t:ByteArray)(j i:Nat)(hi:i<64) : (pgT t j).data.toList[i]? = t.data.toList[64*j+i]? := by rw[pgT_list,List.getElem?_take,if_pos hi,List.getElem?_drop]
theorem pgT_size {t:ByteArray}{j:Nat}(h:64*j+64≤t.size) : (pgT t j).size=64:=by unfold pgT;rw[ByteArray.size_extract];omega
theorem pgW_iff {t:ByteArray}{j:Nat} : pgW t j=true↔64*j+64≤t.size∧opOk (pgT t j)=true:=by unfold pgW;rw[Bool.and_eq_true,decide_eq_true_iff]
def hpT (t:ByteArray) : Nat:=(t.data.toList.getD 3 0).toNat
def hnT (t:ByteArray) : Nat:=getS (t.extract 4 8)
def hdOk (t:ByteArray) : Bool:=decide (64≤t.size)&&(pgOk (hnT t) (hpT t)&&decide (t.extract 0 64=hdP (hnT t) (hpT t)))
theorem hdOk_iff {t:ByteArray} : hdOk t=true↔64≤t.size∧pgOk (hnT t) (hpT t)=true∧t.extract 0 64=hdP (hnT t) (hpT t):=by unfold hdOk;rw[Bool.and_eq_true,Bool.and_eq_true,decide_eq_true_iff,decide_eq_true_iff]
theorem hdOk_short {t:ByteArray}(h:t.size<64) : hdOk t=false:=by
 unfold hdOk;rw[decide_eq_false (by omega),Bool.false_and]
theorem hdOk_not {t:ByteArray}(h:pgOk (hnT t) (hpT t)=false) : hdOk t=false:=by
 unfold hdOk;rw[h,Bool.false_and,Bool.and_false]
theorem hdOk_other {t:ByteArray}(h:¬ t.extract 0 64=hdP (hnT t) (hpT t)) : hdOk t=false:=by
 unfold hdOk;rw[decide_eq_false h,Bool.and_false,Bool.and_false]
def byT (t:ByteArray)(k:Nat) : UInt8:=t.data.toList.getD (64*(k/480+1)+k/8%60) 0
def bitT (t:ByteArray)(k:Nat) : Bool:=(byT t k).toNat.testBit (k%8)
def offT (t:ByteArray)(k:Nat) : Bool:=pgW t (k/480+1)&&!bitT t k
def mayT (t:ByteArray)(h:Nat) : Bool:=!hdOk t||(asksL h (hpT t) ((8*hnT t:Nat):Int)).all fun k=>!offT t k
theorem mayT_no {t:ByteArray}(h:hdOk t=false)(g:Nat) : mayT t g=true:=by unfold mayT;rw[h];rfl
theorem mayT_yes {t:ByteArray}(h:hdOk t=true)(g:Nat) : mayT t g=(asksL g (hpT t) ((8*hnT t:Nat):Int)).all fun k=>!offT t k:=by unfold mayT;rw[h];rfl
theorem mayT_all {t:ByteArray}{g:Nat}(H:∀ k∈asksL g (hpT t) ((8*hnT t:Nat):Int),offT t k=false) : mayT t g=true:=by
 unfold mayT;rw[Bool.or_eq_true,List.all_eq_true];exact Or.inr fun k hk=>by rw[H k hk];rfl
theorem mayT_one {t:ByteArray}{g k:Nat}(h:hdOk t=true)(hk:k∈asksL g (hpT t) ((8*hnT t:Nat):Int))(H:offT t k=true) : mayT t g=false:=by
 rw[mayT_yes h,List.all_eq_false];exact⟨k,hk,by rw[H];decide⟩
def pgs (a:ByteArray) : Nat→ByteArray
 | 0=>ByteArray.empty
 | k+1=>pgs a k++sealS (a.extract (60*k) (60*k+60))
theorem pgs_succ (a:ByteArray)(k:Nat) : pgs a (k+1)=pgs a k++sealS (a.extract (60*k) (60*k+60)):=rfl
theorem pgs_size (a:ByteArray) : ∀ k,60*k≤a.size→(pgs a k).size=64*k
 | 0,_=>rfl
 | k+1,h=>by rw[pgs_succ,ByteArray.size_append,pgs_size a k (by omega),seal_size,ByteArray.size_extract];omega
def putP (a:ByteArray)(p:Int) : ByteArray:=if pgOk a.size p then hdP a.size p.toNat++pgs a (a.size/60) else ByteArray.empty
theorem putP_no {a:ByteArray}{p:Int}(h:pgOk a.size p=false) : putP a p=ByteArray.empty:=by unfold putP;rw[h];rfl
theorem putP_yes {a:ByteArray}{p:Int}(h:pgOk a.size p=true) : putP a p=hdP a.size p.toNat++pgs a (a.size/60):=by unfold putP;rw[h];rfl
theorem putP_size {a:ByteArray}{p:Int}(h:pgOk a.size p=true) : (putP a p).size=64*(a.size/60+1):=by
 rw[putP_yes h,ByteArray.size_append,hdP_size,pgs_size a _ (by omega)];omega
theorem make_size (l:List Nat)(p:Int)(n:Nat)(h0:0<n)(hn:n≤125000) : (bs (makeL l p ((8*n:Nat):Int))).size=n:=by
 rw[bs_size,makeL_yes (by unfold mkOk;exact decide_eq_true (by omega)),bytesL_length];omega
end
end Go.Proofs.YtokbfellcadkpaaGreat
namespace Go.Proofs.YtokbfellcadkpaaGreat
open Go.RowKit
open Go.Maps (Keyed)
set_option linter.unusedVariables false
set_option maxRecDepth 100000
def pgC (l:List UInt8) : Array Value:=(l.map fun c=>Value.int .u8 (c.toNat:Int)).toArray
def pgV (l:List UInt8) : Value:=.agg (pgC l)
theorem pgC_size (l:List UInt8) : (pgC l).size=l.length:=by unfold pgC;rw[List.size_toArray,List.length_map]
theorem pgC_at (l:List UInt8){i:Nat}(hi:i<l.length) : (pgC l)[i]? = some (.int .u8 ((l.getD i 0).toNat:Int)):=by
 unfold pgC;rw[List.getElem?_toArray,List.getElem?_map,List.getD_eq_getElem?_getD,List.getElem?_eq_getElem hi];rfl
theorem pgC_one (l:List UInt8) : (pgC l).all (·.oneCell')=true:=by
 unfold pgC;rw[List.all_toArray,List.all_eq_true];intro x hx;obtain⟨c,_,rfl⟩:=List.mem_map.1 hx;rfl
def u8Of : Value→Option UInt8
 | .int .u8 n=>if n=((UInt8.ofNat n.toNat).toNat:Int) then some (UInt8.ofNat n.toNat) else none
 | _=>none
theorem u8Of_mk (c:UInt8) : u8Of (.int .u8 (c.toNat:Int))=some c:=by simp[u8Of]
theorem u8Of_inv {v:Value}{c:UInt8}(h:u8Of v=some c) : v = .int .u8 (c.toNat:Int):=by
 unfold u8Of at h;split at h
 ·rename_i n;split at h
  ·rename_i e;injection h with h;rw[← h,← e]
  ·cases h
 ·cases h
def pgR : Value→Option (DataW Unit × List MemPlace)
 | .agg cs=>(cs.toList.mapM u8Of).map fun l=>(.lit (.string l),[])
 | _=>none
theorem mapM_mk : ∀ l:List UInt8,(l.map fun c=>Value.int .u8 (c.toNat:Int)).mapM u8Of=some l
 | []=>rfl
 | c::l=>by rw[List.map_cons,List.mapM_cons,u8Of_mk,mapM_mk l];rfl
theorem mapM_inv : ∀ {cs:List Value} {l:List UInt8},cs.mapM u8Of=some l→cs=l.map fun c=>Value.int .u8 (c.toNat:Int)
 | [],l,h=>by rw[List.mapM_nil] at h;injection h with h;rw[← h];rfl
 | v::cs,l,h=>by
   rw[List.mapM_cons] at h;cases e1:u8Of v with
   | none=>rw[e1] at h;cases h
   | some c =>
     cases e2:cs.mapM u8Of with
     | none=>rw[e1,e2] at h;cases h
     | some m =>
       rw[e1,e2] at h;injection h with h;rw[← h,List.map_cons,← mapM_inv e2,← u8Of_inv e1]
theorem pgR_mk (l:List UInt8) : pgR (pgV l)=some (.lit (.string l),[]):=by
 show((pgC l).toList.mapM u8Of).map _=_;unfold pgC;rw[List.toList_toArray,mapM_mk];rfl
theorem pgR_inv {v:Value}{y:DataW Unit × List MemPlace}(h:pgR v=some y) : ∃ l,v=pgV l∧y=(.lit (.string l),[]):=by
 unfold pgR at h;split at h
 ·rename_i cs;cases e:cs.toList.mapM u8Of with
  | none=>rw[e] at h;cases h
  | some l =>
    rw[e] at h;injection h with h;refine⟨l, ?_,h.symm⟩;unfold pgV pgC;rw[← mapM_inv e,Array.toArray_toList]
 ·cases h
def keyI (k:Nat) : Lit:=.int .i64 (k:Int)
theorem keyI_inj {a b:Nat}(h:keyI a=keyI b) : a=b:=by unfold keyI at h;injection h with _ h;omega
theorem keyI_of {k:Nat}(h:k≤1000000) : keyOf Tryz.prog 3 (.int .i64 (k:Int))=some (keyI k):=Maps.keyOf_int_mk Tryz.underlying3 (WalkArith.wf_i64 (by omega))
theorem keyI_is (k:Nat) : WideAt.IsKeyLit (keyI k):=trivial
theorem keysI : Keyed Tryz.prog 3:=Maps.int_keyed Tryz.underlying3
theorem zeroPg (w:World) : (zeroValue 308).run Tryz.prog w = .ok (pgV (List.replicate 60 0)) w:=by kernel_rfl
theorem infoPg : (Tryz.prog.info? 308).map (·.size)=some 60:=by kernel_rfl
def pgB (t:ByteArray)(k:Nat) : List UInt8:=(pgT t (k+1)).data.toList.take 60
theorem pgB_length {t:ByteArray}{k:Nat}(h:pgW t (k+1)=true) : (pgB t k).length=60:=by
 unfold pgB;rw[List.length_take,sl_size,pgT_size (pgW_iff.1 h).1];decide
theorem pgB_at {t:ByteArray}{k:Nat}(x:Nat)(hk:k=x/480) : (pgB t k).getD (x/8%60) 0=byT t x:=by
 have hi:x/8%60<60:=Nat.mod_lt _ (by decide);unfold pgB byT;rw[List.getD_eq_getElem?_getD,List.getD_eq_getElem?_getD,List.getElem?_take,if_pos hi,pgT_at _ _ _ (by omega),hk]
structure PgIs (D0:DataW Unit)(t:ByteArray)(m:Nat) : Prop where
 yes:∀ k,k<m→pgW t (k+1)=true→∀ zd,D0.atKey (keyI k) zd = .lit (.string (pgB t k))
 no:∀ k,m≤k∨pgW t (k+1)=false→Maps.has D0 (keyI k)=false
def MapPg (w:World)(mb:Nat)(t:ByteArray)(m:Nat) : Prop:=∃ D0,w.ownsMap Tryz.prog 3 pgR mb m D0∧Maps.IsMap D0∧PgIs D0 t m
section
variable {w w' : World} {mb m : Nat} {t : ByteArray}
theorem MapPg.lt (h:MapPg w mb t m) : mb<w.heap.size:=by
 obtain⟨D0,h1,h2⟩:=h;exact h1.lt
theorem MapPg.of_block (h:MapPg w mb t m)(e:w'.heap[mb]? = w.heap[mb]?) : MapPg w' mb t m:=by
 obtain⟨D0,⟨es,clock,hb,r⟩,h2⟩:=h;exact⟨D0,⟨es,clock,e.trans hb,r⟩,h2⟩
theorem MapPg.below (h:MapPg w mb t m)(hb:Below w.heap.size w w') : MapPg w' mb t m:=h.of_block (hb.block _ h.lt)
theorem MapPg.new (w:World)(t:ByteArray) : MapPg (w.alloc (.map #[] 0)) w.heap.size t 0 :=
 ⟨.map [],World.ownsMap_made w _ _ _,⟨[],rfl⟩,fun k hk=>by omega,fun k _=>rfl⟩
theorem MapPg.skip (h:MapPg w mb t m)(hn:pgW t (m+1)=false) : MapPg w mb t (m+1):=by
 obtain⟨D0,h1,h2,h3⟩:=h;refine⟨D0,h1.mono (Nat.le_succ m),h2,fun k hk hw=>?_,fun k hk=>?_⟩
 ·by_cases e:k=m
  ·rw[e,hn] at hw;cases hw
  ·exact h3.yes k (by omega) hw
 ·refine h3.no k ?_;rcases hk with hk | hk
  ·exact Or.inl (by omega)
  ·exact Or.inr hk
theorem MapPg.look (h:MapPg w mb t m){k:Nat}(hk:k≤1000000) :
  (Instr.lookup 215 (.map (some mb)) (.int .i64 (k:Int)) true).run Tryz.prog w = .ok (.tuple #[pgV (if k<m∧pgW t (k+1)=true then pgB t k else List.replicate 60 0),.bool (decide (k<m)&&pgW t (k+1))]) w:=by
 obtain⟨D0,⟨es,clock,hb,F,_,rfl⟩,h2,h3⟩:=h;rcases Maps.fit_look true keysI Tryz.underlying215 (zeroPg w) hb F (keyI_of hk) with⟨hrun,_,hat⟩ | ⟨e0,y,_,_,hrun,hRv,hat,_⟩
 ·have hno:¬ (k<m∧pgW t (k+1)=true):=fun hc=>by
   have h4:=h3.yes k hc.1 hc.2;have h5:=h4 (.lit (.int .i64 0));rw[hat] at h5;cases h5
  rw[hrun,if_neg hno]
  have:(decide (k<m)&&pgW t (k+1))=false:=by
   by_cases c:k<m
   ·rw[decide_eq_true c,Bool.true_and];exact Bool.eq_false_iff.2 (fun e=>hno ⟨c,e⟩)
   ·rw[decide_eq_false c,Bool.false_and]
  rw[this];rfl
 ·have hyes:k<m∧pgW t (k+1)=true:=by
   refine Classical.byContradiction fun hc=>?_
   have h4:=h3.no k (by
    by_cases c:k<m
    ·exact Or.inr (Bool.eq_false_iff.2 (fun e=>hc ⟨c,e⟩))
    ·exact Or.inl (by omega))
   rw[Maps.has_true_of_atKey hat] at h4;cases h4
  have h4:=h3.yes k hyes.1 hyes.2 (.lit (.int .i64 0));rw[hat] at h4;obtain⟨l,e1,rfl⟩:=pgR_inv hRv;simp only[DataW.lit.injEq,Lit.string.injEq] at h4;rw[hrun,if_pos hyes,decide_eq_true hyes.1,hyes.2,e1,h4];rfl
theorem MapPg.put (h:MapPg w mb t m)(hm:m≤1000000)(hw:pgW t (m+1)=true) : ∃ w',(Instr.mapUpdate 215 (.map (some mb)) (.int .i64 (m:Int)) (pgV (pgB t m))).run Tryz.prog w = .ok () w'∧MapPg w' mb t (m+1)∧w.grownBy w' (some mb):=by
 obtain⟨D0,h1,h2,h3⟩:=h;obtain⟨w',hr,ho,hg⟩:=h1.update keysI Tryz.underlying215 (by unfold maxLen;omega) (keyI_of hm) (pgR_mk (pgB t m));refine⟨w',hr,⟨_,ho,h2.put _ _,fun k hk hkw=>?_,fun k hk=>?_⟩,hg⟩
 ·intro zd;by_cases e:k=m
  ·subst e;exact Maps.atKey_put_same h2 (keyI_is k) _ zd
  ·rw[Maps.atKey_put_other (fun he=>e (keyI_inj he))];exact h3.yes k (by omega) hkw zd
 ·by_cases e:k=m
  ·subst e;rcases hk with hk | hk
   ·omega
   ·rw[hw] at hk;cases hk
  ·rw[Maps.has_put_other (fun he=>e (keyI_inj he))];refine h3.no k ?_;rcases hk with hk | hk
   ·exact Or.inl (by omega)
   ·exact Or.inr hk
end
def FilterAt (w:World)(f:Value)(t:ByteArray) : Prop :=
 (hdOk t=false∧f = .agg #[.int .i64 0,.int .i64 0,.map none]) ∨
 (hdOk t=true∧∃ mb,f = .agg #[.int .i64 (hpT t:Nat),.int .i64 (hnT t:Nat),.map (some mb)]∧MapPg w mb t (hnT t/60))
theorem FilterAt.below {w w':World}{f:Value}{t:ByteArray}(h:FilterAt w f t)(hb:Below w.heap.size w w') : FilterAt w' f t:=by
 rcases h with h | ⟨h,mb,e,hm⟩
 ·exact Or.inl h
 ·exact Or.inr ⟨h,mb,e,hm.below hb⟩
theorem FilterAt.none (w:World) : FilterAt w (.agg #[.int .i64 0,.int .i64 0,.map none]) ByteArray.empty:=Or.inl ⟨hdOk_short (by decide),rfl⟩
end Go.Proofs.YtokbfellcadkpaaGreat
namespace Go.Proofs.YtokbfellcadkpaaGreat
set_option maxRecDepth 100000
set_option linter.unusedVariables false
section
open Go.RowKit
theorem off_bit (c k:Nat)(hc:c<256) : (bits .and .u8 ((c:Int)/2 ^ k) 1==0) = !c.testBit k:=by
 have h1:(c:Int)/2 ^ k=((c/2 ^ k:Nat):Int):=by simp
 rw[h1,show(1:Int)=((1:Nat):Int) from rfl,u8_and_nat _ _ (Nat.lt_of_le_of_lt (Nat.div_le_self _ _) hc) (by decide),Nat.and_one_is_mod];have h2:=bit_shift (c:=c) (k:=k);cases hb:c.testBit k with
 | true=>rw[h2.2 hb];rfl
 | false =>
   have h3:¬ c/2 ^ k%2=1:=fun e=>by rw[h2.1 e] at hb;cases hb
   have h4:c/2 ^ k%2=0:=by omega
   rw[h4];rfl
set_option maxHeartbeats 1000000 in
set_option maxRecDepth 100000 in
theorem off_at (mb x:Nat)(p n:Int)(C:Array Value)(q r:Bool)(c:Nat)(w:World)(hx2:x≤10000000)(hC:C.size=60)(h1:C.all (·.oneCell')=true)(hc256:c<256)
  (hl:∀ W,Below w.heap.size w W→(Instr.lookup 215 (.map (some mb)) (.int .i64 ((x:Int)/480)) true).run Tryz.prog W = .ok (.tuple #[.agg C,.bool q]) W)
  (hcase:(q=false∧r=false)∨(q=true∧C[x%480/8]? = some (.int .u8 (c:Nat))∧r = !c.testBit (x%8))) :
  Calls Tryz.prog 262 #[.agg #[.int .i64 p,.int .i64 n,.map (some mb)],.int .i64 (x:Nat)] w fun e w'=>e = .returned (.bool r)∧Below w.heap.size w w':=by
 have hb1:Below w.heap.size w (w.alloc (.cells #[.int .i64 p,.int .i64 n,.map (some mb)] 217)):=(Below.refl _ _).alloc (Nat.le_refl _) _;have H1:=hl _ hb1;have c0:(w.alloc (.cells #[.int .i64 p,.int .i64 n,.map (some mb)] 217)).cell? ⟨w.heap.size,2,none⟩=some (.map (some mb)):=(Blok.new w _ _).cell 2;obtain⟨w1,hw1⟩:∃ w1,w.alloc (.cells #[.int .i64 p,.int .i64 n,.map (some mb)] 217)=w1:=⟨_,rfl⟩
 rw[hw1] at hb1 H1 c0;have H2:=run_storeCells_new (P:=Tryz.prog) w1 308 (pgC (List.replicate 60 0)) C (by rw[hC];exact infoPg) (by rw[hC,pgC_size];rfl) h1;have e0:pgC (List.replicate 60 0)=#[.int .u8 0,.int .u8 0,.int .u8 0,.int .u8 0,.int .u8 0,.int .u8 0,.int .u8 0,.int .u8 0,.int .u8 0,.int .u8 0,.int .u8 0,.int .u8 0,.int .u8 0,.int .u8 0,.int .u8 0,.int .u8 0,.int .u8 0,.int .u8 0,.int .u8 0,.int .u8 0,.int .u8 0,.int .u8 0,.int .u8 0,.int .u8 0,.int .u8 0,.int .u8 0,.int .u8 0,.int .u8 0,.int .u8 0,.int .u8 0,.int .u8 0,.int .u8 0,.int .u8 0,.int .u8 0,.int .u8 0,.int .u8 0,.int .u8 0,.int .u8 0,.int .u8 0,.int .u8 0,.int .u8 0,.int .u8 0,.int .u8 0,.int .u8 0,.int .u8 0,.int .u8 0,.int .u8 0,.int .u8 0,.int .u8 0,.int .u8 0,.int .u8 0,.int .u8 0,.int .u8 0,.int .u8 0,.int .u8 0,.int .u8 0,.int .u8 0,.int .u8 0,.int .u8 0,.int .u8 0]:=by rfl
 rw[e0] at H2;have HC:=fun i v (h:C[i]? = some v)=>((Blok.new w1 308 C).cell i).trans h
 have hb2:Below w.heap.size w (w1.alloc (.cells C 308)):=hb1.alloc hb1.size _;rcases hcase with⟨rfl,rfl⟩ | ⟨rfl,hc,rfl⟩
 ·have HB:=Lib.hid hb2;clear hl HC h1 hb1 hb2 e0;go_enter Tryz.func262,Tryz.ntmps262;go_wp2;go_ret;exact⟨rfl,HB.out⟩
 ·have H3:=HC _ _ hc;obtain⟨w2,hw2⟩:∃ w2,w1.alloc (.cells C 308)=w2:=⟨_,rfl⟩
  rw[hw2] at hb2 H2 H3;have HB:=Lib.hid hb2;obtain⟨i,hi⟩:∃ i:Nat,x%480/8=i:=⟨_,rfl⟩
  obtain⟨y,hy⟩:∃ y:Nat,x%480=y:=⟨_,rfl⟩
  have ei:((x:Int)%480)=(y:Int):=by omega
  have ei2:((y:Int)/8)=(i:Int):=by omega
  rw[hi] at H3;clear hl HC h1 hb1 hb2 e0 hc hi;go_enter Tryz.func262,Tryz.ntmps262;go_wp2;go_ret;refine⟨ret_bool ?_,HB.out⟩;rw[show x%8=y%8 by omega];exact off_bit c (y%8) hc256
theorem offT_look {t:ByteArray}{m x:Nat}(hx:x/480<m)(l:List UInt8)(q:Bool)(hl:l=if x/480<m∧pgW t (x/480+1)=true then pgB t (x/480) else List.replicate 60 0)(hq:q=(decide (x/480<m)&&pgW t (x/480+1))) :
  l.length=60∧((q=false∧offT t x=false)∨(q=true∧(pgC l)[x%480/8]? = some (.int .u8 ((byT t x).toNat:Nat))∧offT t x = !(byT t x).toNat.testBit (x%8))):=by
 rw[decide_eq_true hx,Bool.true_and] at hq;by_cases h:pgW t (x/480+1)=true
 ·rw[if_pos ⟨hx,h⟩] at hl;have h60:l.length=60:=by rw[hl];exact pgB_length h
  refine⟨h60,Or.inr ⟨by rw[hq,h], ?_, ?_⟩⟩
  ·rw[pgC_at l (by omega),← pgB_at x rfl,hl,show x%480/8=x/8%60 by omega]
  ·unfold offT bitT;rw[h,Bool.true_and]
 ·rw[if_neg (fun c=>h c.2)] at hl;have h':=Bool.eq_false_iff.2 h;exact⟨by rw[hl,List.length_replicate],Or.inl ⟨by rw[hq,h'],by unfold offT;rw[h',Bool.false_and]⟩⟩
theorem off_any (mb m x:Nat)(p n:Int)(t:ByteArray)(w:World)(hm:MapPg w mb t m)(hx:x/480<m)(hx2:x≤10000000) :
  Calls Tryz.prog 262 #[.agg #[.int .i64 p,.int .i64 n,.map (some mb)],.int .i64 (x:Nat)] w fun e w'=>e = .returned (.bool (offT t x))∧Below w.heap.size w w':=by
 obtain⟨h60,h⟩:=offT_look (t:=t) hx _ _ rfl rfl
 exact off_at mb x p n (pgC _) _ (offT t x) (byT t x).toNat w hx2 (by rw[pgC_size,h60]) (pgC_one _) (UInt8.toNat_lt _)
  (fun W hW=>by
   have:=(hm.below hW).look (k:=x/480) (by omega);rw[Int.natCast_ediv] at this;exact this) h
theorem asks_mem {g:Nat}{p b:Int}{i:Nat}(hi:i<nps p) : prb g (i:Nat) b∈asksL g p b:=asksL_mem.2 ⟨i,hi,rfl⟩
theorem may_none (g:Nat)(w:World) : Calls Tryz.prog 220 #[.agg #[.int .i64 0,.int .i64 0,.map none],.int .u64 (g:Nat)] w fun e w'=>e = .returned (.bool true)∧Below w.heap.size w w':=by
 have hb1:Below w.heap.size w (w.alloc (.cells #[.int .i64 0,.int .i64 0,.map none] 217)):=(Below.refl _ _).alloc (Nat.le_refl _) _;go_enter Tryz.func220,Tryz.ntmps220;go_wp2;refine wp_loop_rounds 1 ?_;rw[rounds_succ];go_wp2;go_ret;exact⟨rfl,hb1⟩
theorem held_cells {w wr:World}{g:Nat}{t:TypeId}{cs:Array Value}(h:Blok wr g t cs) : ∀ W,Below wr.heap.size wr W→Below wr.heap.size wr W∧W.cell? ⟨g,0,none⟩=cs[0]?∧W.cell? ⟨g,1,none⟩=cs[1]?∧W.cell? ⟨g,2,none⟩=cs[2]? := fun W hW =>
 have h2:Blok W g t cs:=(hW.block _ h.lt).trans h
 ⟨hW,h2.cell 0,h2.cell 1,h2.cell 2⟩
set_option maxHeartbeats 2000000 in
set_option maxRecDepth 100000 in
theorem may_some (mb g p n:Nat)(t:ByteArray)(r:Bool)(w:World)(hg:g<18446744073709551616)(hm:MapPg w mb t (n/60))(hn:60≤n∧n≤120000∧n%60=0)(hp:p≤16)
  (Hyes:(∀ k∈asksL g p ((8*n:Nat):Int),offT t k=false)→r=true) (Hno:∀ k∈asksL g p ((8*n:Nat):Int),offT t k=true→r=false) :
  Calls Tryz.prog 220 #[.agg #[.int .i64 (p:Nat),.int .i64 (n:Nat),.map (some mb)],.int .u64 (g:Nat)] w fun e w'=>e = .returned (.bool r)∧Below w.heap.size w w':=by
 have hnp:nps (p:Nat)=p:=by unfold nps;omega
 obtain⟨b,hb⟩:∃ b:Int,((8*n:Nat):Int)=b:=⟨_,rfl⟩
 have eb:8*(n:Int)=b:=by omega
 have wb:(Lit.int .i64 b).wf=true:=WalkArith.wf_i64 (by omega);rw[hb] at Hyes Hno;have HYES:=Lib.hid Hyes;have HNO:=Lib.hid Hno;have HPR:=Lib.hid fun(i:Nat) (W:World) (hi:i<64)=>probe_any g (i:Nat) b W hg (WalkArith.wf_i64 (by omega)) wb
 have hlt:∀ i:Nat,prb g (i:Nat) b/480<n/60∧prb g (i:Nat) b≤10000000:=fun i=>by
  have:=prb_lt g (i:Nat) (show 1≤b by omega);omega
 have HLT:=Lib.hid hlt;have hB1:Blok (w.alloc (.cells #[.int .i64 (p:Nat),.int .i64 (n:Nat),.map (some mb)] 217)) w.heap.size 217 #[.int .i64 (p:Nat),.int .i64 (n:Nat),.map (some mb)]:=Blok.new w _ _;have hb1:Below w.heap.size w (w.alloc (.cells #[.int .i64 (p:Nat),.int .i64 (n:Nat),.map (some mb)] 217)):=(Below.refl _ _).alloc (Nat.le_refl _) _;have hm1:=hm.below hb1;obtain⟨w1,hw1⟩:∃ w1,w.alloc (.cells #[.int .i64 (p:Nat),.int .i64 (n:Nat),.map (some mb)] 217)=w1:=⟨_,rfl⟩
 rw[hw1] at hB1 hb1 hm1;have c0:w1.cell? ⟨w.heap.size,0,none⟩=some (.int .i64 (p:Nat)):=hB1.cell 0;have c1:w1.cell? ⟨w.heap.size,1,none⟩=some (.int .i64 (n:Nat)):=hB1.cell 1;have HH:=Lib.hid (show Blok w1 w.heap.size _ _∧MapPg w1 mb t (n/60)∧Below w.heap.size w w1 from⟨hB1,hm1,hb1⟩);clear hB1 hb1 hm1 hlt Hyes Hno hb wb hm;go_enter Tryz.func220,Tryz.ntmps220;go_wp2;clear c0 c1;go_loopw [8] (fun v wr=>∃ k:Nat,k≤p∧v = .int .i64 k∧(∀ j,j<k→offT t (prb g (j:Nat) b)=false)∧Below w1.heap.size w1 wr) (fun v _=>p-(intOf v).toNat)
 case atStart=>exact⟨0,Nat.zero_le _,rfl,fun j hj=>by omega,Below.refl _ _⟩
 case round =>
  obtain⟨k,hk,rfl,hall,hbel⟩:=hrel;have HALL:=Lib.hid hall;have HBEL:=Lib.hid hbel;clear hall hbel;by_cases hlt:k<p
  ·have HK:=Lib.hid fun W=>HPR.out k W (by omega)
   have hx:=HLT.out k;have hmr:=HH.out.2.1.below HBEL.out;have hBr:Blok wr w.heap.size _ _:=(HBEL.out.block _ HH.out.1.lt).trans HH.out.1;have HS:=Lib.hid (show ∀ W,Below wr.heap.size wr W→Below wr.heap.size wr W∧W.cell? ⟨w.heap.size,0,none⟩=some (.int .i64 (p:Nat))∧W.cell? ⟨w.heap.size,1,none⟩=some (.int .i64 (n:Nat))∧W.cell? ⟨w.heap.size,2,none⟩=some (.map (some mb)) from held_cells (w:=w) hBr);have hmem:=Lib.hid (asks_mem (g:=g) (p:=(p:Nat)) (b:=b) (i:=k) (by rw[hnp];exact hlt));have c0:wr.cell? ⟨w.heap.size,0,none⟩=some (.int .i64 (p:Nat)):=hBr.cell 0;have c1:wr.cell? ⟨w.heap.size,1,none⟩=some (.int .i64 (n:Nat)):=hBr.cell 1;have c2:wr.cell? ⟨w.heap.size,2,none⟩=some (.map (some mb)):=hBr.cell 2;obtain⟨x,hxe⟩:∃ x,prb g (k:Nat) b=x:=⟨_,rfl⟩
   have HXE:=Lib.hid hxe;rw[hxe] at HK hx hmem;have HO:=Lib.hid fun W (hW:Below wr.heap.size wr W)=>(off_any mb (n/60) x (p:Nat) (n:Nat) t W (hmr.below hW) hx.1 hx.2)
   have HQ:=Lib.hid (show offT t x=offT t x from rfl);obtain⟨q,hq⟩:∃ q,offT t x=q:=⟨_,rfl⟩
   have HQ:=Lib.hid hq;rw[hq] at HO;have s5:(k:Int)<(p:Int):=by omega
   have ewb:IntKind.i64.wrap b=b:=by rw[IntKind.wrap_i64];omega
   clear hxe hx hmr hBr hq;go_wp2_with fail
   go_region_held3 (fun W=>Below wr.heap.size wr W∧W.cell? ⟨w.heap.size,0,none⟩=some (.int .i64 (p:Nat))∧W.cell? ⟨w.heap.size,1,none⟩=some (.int .i64 (n:Nat))∧W.cell? ⟨w.heap.size,2,none⟩=some (.map (some mb)))
    (first | (with_reducible assumption) | ((with_reducible refine HS.out _ ?_);(repeat' (first | (with_reducible assumption) | (with_reducible exact Below.refl _ _) | (with_reducible refine Below.drew ?_)));done) | fail)
    (first
    | (go_at_call 263;((with_reducible refine(HK.out _).mono ?_);rintro e w' ⟨rfl,rfl⟩))
    | (go_at_call 262;((with_reducible refine(HO.out _ (And.left (by with_reducible assumption))).mono ?_);rintro e w' ⟨rfl,hb⟩;have hB2:=bj (And.left (by with_reducible assumption)) hb))
    | fail)
   cases q with
   | true =>
     have hr:=HNO.out x hmem.out HQ.out;subst hr;go_wp2;go_ret;exact⟨rfl,HH.out.2.2.trans ((HBEL.out.trans ((And.left (‹Below wr.heap.size wr _∧_›)).mono HBEL.out.size)).mono HH.out.2.2.size)⟩
   | false =>
     go_wp2;go_roundw
     case rel =>
      refine⟨k+1,hlt,by go_num,fun j hj=>?_,HBEL.out.trans ((And.left (‹Below wr.heap.size wr _∧_›)).mono HBEL.out.size)⟩;by_cases e:j=k
      ·rw[e,HXE.out];exact HQ.out
      ·exact HALL.out j (by omega)
     case measure=>simp[intOf];omega
  ·have hr:r=true:=HYES.out fun x hx=>by
    obtain⟨i,hi,rfl⟩:=asksL_mem.1 hx;rw[hnp] at hi;exact HALL.out i (by omega)
   subst hr;have s5:(p:Int)≤(k:Int):=by omega
   go_wp2;go_ret;exact⟨rfl,HH.out.2.2.trans (HBEL.out.mono HH.out.2.2.size)⟩
theorem fmay_any (f:Value)(g:Nat)(t:ByteArray)(w:World)(hg:g<18446744073709551616)(h:FilterAt w f t) :
  Calls Tryz.prog 220 #[f,.int .u64 (g:Nat)] w fun e w'=>e = .returned (.bool (mayT t g))∧Below w.heap.size w w':=by
 rcases h with⟨h,rfl⟩ | ⟨h,mb,rfl,hm⟩
 ·rw[mayT_no h];exact may_none g w
 ·obtain⟨g1,g2,g3,g4,g5⟩:=pgOk_iff.1 (hdOk_iff.1 h).2.1;exact may_some mb g _ _ t (mayT t g) w hg hm (by omega) (by omega) mayT_all fun k hk ho=>mayT_one h hk ho
end
section
structure ManS where
 next:Int
 check:Int
 seed:Nat
 lv:LvL
theorem ManS.ext' {a b:ManS}(h1:a.next=b.next)(h2:a.check=b.check)(h3:a.seed=b.seed)(h4:a.lv=b.lv) : a=b:=by
 cases a;cases b;simp only at h1 h2 h3 h4;subst h1;subst h2;subst h3;subst h4;rfl
def MayM (m:ManS) : Prop:=0≤m.next∧m.next≤1000000∧0≤m.check∧m.check≤2147483647∧MayBe m.lv∧∀ x∈m.lv.flatten,x<m.next
instance (m : ManS) : Decidable (MayM m) := by unfold MayM; infer_instance
def mayM (m:ManS) : Bool:=decide (MayM m)
def trimM (m:ManS) : ManS:=⟨m.next,m.check,m.seed,trimL m.lv⟩
def sameM (a b:ManS) : Bool:=decide (a.next=b.next∧a.check=b.check∧a.seed=b.seed∧trimL a.lv=trimL b.lv)
def u4 (x:Int) : List UInt8:=be 4 x.toNat
def lvB (l:List Int) : List UInt8:=be 1 l.length++l.flatMap u4
def lvsB (L:LvL) : List UInt8:=L.flatMap lvB
def imapL : List UInt8:=[105,109,97,112]
def mfHead (m:ManS) : List UInt8:=imapL++be 4 m.next.toNat++be 4 m.check.toNat++be 8 m.seed
def mfTop (m:ManS) : List UInt8:=mfHead m++be 1 (trimL m.lv).length
def mfBody (m:ManS) : List UInt8:=mfTop m++lvsB (trimL m.lv)
def mfB (m:ManS) : ByteArray:=sealS (bs (mfBody m))
def mfS (m:ManS) : ByteArray:=if MayM m then mfB m else ByteArray.empty
def mfE (m:ManS) : Int:=if MayM m then 0 else 2
theorem mf_no {m:ManS}(h:¬ MayM m) : mfS m=ByteArray.empty∧mfE m=2:=by unfold mfS mfE;rw[if_neg h,if_neg h];exact⟨rfl,rfl⟩
theorem mf_yes {m:ManS}(h:MayM m) : mfS m=mfB m∧mfE m=0:=by unfold mfS mfE;rw[if_pos h,if_pos h];exact⟨rfl,rfl⟩
theorem u4_length (x:Int) : (u4 x).length=4:=be_length _ _
theorem flat4_length : ∀ l:List Int,(l.flatMap u4).length=4*l.length
 | []=>rfl
 | x::l=>by rw[List.flatMap_cons,List.length_append,u4_length,flat4_length l,List.length_cons];omega
theorem lvB_length (l:List Int) : (lvB l).length=1+4*l.length:=by unfold lvB;rw[List.length_append,be_length,flat4_length]
theorem lvsB_append (a b:LvL) : lvsB (a++b)=lvsB a++lvsB b:=by unfold lvsB;rw[List.flatMap_append]
theorem lvsB_cons (x:List Int)(L:LvL) : lvsB (x::L)=lvB x++lvsB L:=by unfold lvsB;rw[List.flatMap_cons]
theorem lvsB_one (x:List Int) : lvsB [x]=lvB x:=by rw[lvsB_cons];show _++[]=_;rw[List.append_nil]
theorem lvsB_length : ∀ L:LvL,(lvsB L).length=L.length+4*L.flatten.length
 | []=>rfl
 | x::L=>by rw[lvsB_cons,List.length_append,lvB_length,lvsB_length L,List.length_cons,List.flatten_cons,List.length_append];omega
theorem mfHead_length (m:ManS) : (mfHead m).length=20:=by
 unfold mfHead;rw[List.length_append,List.length_append,List.length_append,be_length,be_length,be_length];rfl
theorem mfTop_length (m:ManS) : (mfTop m).length=21:=by unfold mfTop;rw[List.length_append,mfHead_length,be_length]
theorem mfB_size (m:ManS) : (mfB m).size=25+(lvsB (trimL m.lv)).length:=by unfold mfB;rw[seal_size,bs_size];unfold mfBody;rw[List.length_append,mfTop_length];omega
theorem mfB_list (m:ManS) : (mfB m).data.toList=mfTop m++(lvsB (trimL m.lv)++tailS (mfBody m)):=by
 unfold mfB;rw[seal_list,sl_list]
 conv=>lhs;arg 1;unfold mfBody
 rw[List.append_assoc]
theorem MayM.lv_ok {m:ManS}(h:MayM m) : (trimL m.lv).length≤5∧(trimL m.lv).flatten.length≤40∧∀ x∈trimL m.lv,x.length≤40∧∀ y∈x,0≤y∧y<4294967296:=by
 obtain⟨h1,h2,h3,h4,h5,h6⟩:=h;have e:=trimL_flatten m.lv;have hl:=trimL_length m.lv;have hf:(trimL m.lv).flatten.length≤40:=by rw[e];exact h5.2.1
 refine⟨by have:=h5.1;omega,hf,fun x hx=>⟨?_,fun y hy=>?_⟩⟩
 ·have h7:∀ (L:LvL),x∈L→x.length≤L.flatten.length:=by
   intro L
   induction L with
   | nil=>intro h;cases h
   | cons z L ih =>
     intro h;rw[List.flatten_cons,List.length_append];rcases List.mem_cons.1 h with rfl | h
     ·omega
     ·have:=ih h;omega
  have:=h7 _ hx;omega
 ·have hm:y∈m.lv.flatten:=by rw[← e];exact List.mem_flatten.2 ⟨x,hx,hy⟩
  have a:=h5.2.2.1 y hm;have b:=h6 y hm;omega
theorem mfB_small {m:ManS}(h:MayM m) : (mfB m).size≤190:=by
 obtain⟨h1,h2,-⟩:=h.lv_ok;rw[mfB_size,lvsB_length];omega
theorem trimN_idem (L:LvL)(n:Nat)(hn:n≤L.length) : trimN (L.take (trimN L n)) (trimN L n)=trimN L n:=by
 induction n with
 | zero=>rfl
 | succ n ih =>
   by_cases c:L.getD n []=[]
   ·have e:trimN L (n+1)=trimN L n:=by rw[trimN,if_pos c]
    rw[e];exact ih (by omega)
   ·have e:trimN L (n+1)=n+1:=by rw[trimN,if_neg c]
    rw[e,trimN,if_neg];rw[List.getD_eq_getElem?_getD,List.getElem?_take,if_pos (by omega),← List.getD_eq_getElem?_getD];exact c
theorem trimL_idem (L:LvL) : trimL (trimL L)=trimL L:=by
 have hle:=trimN_le L L.length;have h:=trimN_idem L L.length (Nat.le_refl _);have e:trimL L=L.take (trimN L L.length):=rfl;have hl:(L.take (trimN L L.length)).length=trimN L L.length:=by rw[List.length_take];omega
 show(trimL L).take (trimN (trimL L) (trimL L).length)=trimL L;rw[e,hl,h,List.take_take,Nat.min_self]
theorem mayBe_trim {L:LvL}(h:MayBe L) : MayBe (trimL L):=by
 have:=trimL_length L;refine⟨by have:=h.1;omega, ?_⟩;rw[trimL_flatten];exact h.2
theorem mayM_trim {m:ManS}(h:MayM m) : MayM (trimM m):=by
 obtain⟨h1,h2,h3,h4,h5,h6⟩:=h;refine⟨h1,h2,h3,h4,mayBe_trim h5, ?_⟩;show ∀ x∈(trimL m.lv).flatten,_;rw[trimL_flatten];exact h6
theorem mfB_trim (m:ManS) : mfB (trimM m)=mfB m:=by
 have e1:trimL (trimM m).lv=trimL m.lv:=trimL_idem m.lv;have e2:mfBody (trimM m)=mfBody m:=by unfold mfBody mfTop mfHead;rw[e1];rfl
 unfold mfB;rw[e2]
def num (s:ByteArray)(p n:Nat) : Nat:=getS (s.extract p (p+n))
def lvAt (s:ByteArray)(p k:Nat) : List Int:=(List.range k).map fun j=>((num s (p+4*j) 4:Nat):Int)
theorem lvAt_length (s:ByteArray)(p k:Nat) : (lvAt s p k).length=k:=by unfold lvAt;rw[List.length_map,List.length_range]
theorem lvAt_succ (s:ByteArray)(p k:Nat) : lvAt s p (k+1)=lvAt s p k++[((num s (p+4*k) 4:Nat):Int)]:=by unfold lvAt;rw[List.range_succ,List.map_append];rfl
theorem lvAt_zero (s:ByteArray)(p:Nat) : lvAt s p 0=[]:=rfl
theorem lvAt_at (s:ByteArray)(p:Nat){k j:Nat}(h:j<k) : (lvAt s p k)[j]? = some ((num s (p+4*j) 4:Nat):Int):=by unfold lvAt;rw[List.getElem?_map,List.getElem?_range h];rfl
theorem num_list {s:ByteArray}{a b c:List UInt8}{p n:Nat}(h:s.data.toList=a++(b++c))(hp:p=a.length)(hn:n=b.length)(h8:n≤8) : num s p n=un b:=by
 subst hp;subst hn;unfold num getS;rw[sl_ext,h,List.drop_left,show a.length+b.length-a.length=b.length by omega,List.take_left,List.take_of_length_le h8]
theorem num_lt (s:ByteArray)(p n k:Nat)(hn:n≤k)(h8:n≤8) : num s p n<256 ^ k:=by
 unfold num getS;have h:=un_lt ((s.extract p (p+n)).data.toList.take 8)
 have h2:((s.extract p (p+n)).data.toList.take 8).length≤k:=by
  rw[List.length_take,sl_ext,List.length_take];omega
 exact Nat.lt_of_lt_of_le h (Nat.pow_le_pow_right (by decide) h2)
theorem un_four' (n:Nat)(h:n<4294967296) : un (be 4 n)=n:=by
 have p:(256:Nat) ^ 4=4294967296:=by decide
 rw[un_be,p,Nat.mod_eq_of_lt h]
theorem un_eight' (n:Nat)(h:n<18446744073709551616) : un (be 8 n)=n:=by
 have p:(256:Nat) ^ 8=18446744073709551616:=by decide
 rw[un_be,p,Nat.mod_eq_of_lt h]
theorem un_one' (n:Nat)(h:n<256) : un (be 1 n)=n:=by rw[un_be,Nat.pow_one,Nat.mod_eq_of_lt h]
theorem flat4_take {x:List Int}{j:Nat}(h:j<x.length) : x.flatMap u4=(x.take j).flatMap u4++(u4 x[j]++(x.drop (j+1)).flatMap u4):=by
 conv=>lhs;rw[← List.take_append_drop j x,List.drop_eq_getElem_cons h,List.flatMap_append,List.flatMap_cons]
theorem lvAt_list {s:ByteArray}{a c:List UInt8}{x:List Int}{p:Nat}(h:s.data.toList=a++(x.flatMap u4++c))(hp:p=a.length)(hx:∀ y∈x,0≤y∧y<4294967296) : lvAt s p x.length=x:=by
 apply List.ext_getElem?;intro j;rcases Nat.lt_or_ge j x.length with c1 | c1
 ·rw[lvAt_at _ _ c1,List.getElem?_eq_getElem c1]
  have e:s.data.toList=(a++(x.take j).flatMap u4)++(u4 x[j]++((x.drop (j+1)).flatMap u4++c)):=by
   rw[h,flat4_take c1];simp only[List.append_assoc]
  have hl:p+4*j=(a++(x.take j).flatMap u4).length:=by rw[List.length_append,flat4_length,List.length_take,hp];omega
  have h1:=hx x[j] (List.getElem_mem c1);rw[num_list e hl (u4_length _).symm (by decide)];unfold u4;rw[un_four' _ (by omega)];congr 1;omega
 ·rw[List.getElem?_eq_none (by rw[lvAt_length];exact c1),List.getElem?_eq_none c1]
def place (T:LvL)(i:Nat) : Nat:=21+(lvsB (T.take i)).length
theorem place_succ {T:LvL}{i:Nat}{x:List Int}(h:T[i]? = some x) : place T (i+1)=place T i+1+4*x.length:=by
 have e:T.take (i+1)=T.take i++[x]:=by rw[List.take_add_one,h];rfl
 unfold place;rw[e,lvsB_append,lvsB_one,List.length_append,lvB_length];omega
theorem mf_front {m:ManS}{s:ByteArray}(h:MayM m)(hseed:m.seed<18446744073709551616)(hs:mfB m=s) :
  ((num s 4 4:Nat):Int)=m.next∧((num s 8 4:Nat):Int)=m.check∧num s 12 8=m.seed∧num s 20 1=(trimL m.lv).length:=by
 obtain⟨h1,h2,h3,h4,h5,h6⟩:=h;have hl:=trimL_length m.lv;have hl5:=h5.1;have e:=mfB_list m;rw[hs] at e;unfold mfTop mfHead at e;have l4:imapL.length=4:=rfl;have e1:s.data.toList=imapL++(be 4 m.next.toNat++(be 4 m.check.toNat++(be 8 m.seed++(be 1 (trimL m.lv).length++(lvsB (trimL m.lv)++tailS (mfBody m)))))):=by rw[e];simp only[List.append_assoc]
 have e2:s.data.toList=(imapL++be 4 m.next.toNat)++(be 4 m.check.toNat++(be 8 m.seed++(be 1 (trimL m.lv).length++(lvsB (trimL m.lv)++tailS (mfBody m))))):=by rw[e];simp only[List.append_assoc]
 have e3:s.data.toList=(imapL++be 4 m.next.toNat++be 4 m.check.toNat)++(be 8 m.seed++(be 1 (trimL m.lv).length++(lvsB (trimL m.lv)++tailS (mfBody m)))):=by rw[e];simp only[List.append_assoc]
 have e4:s.data.toList=(imapL++be 4 m.next.toNat++be 4 m.check.toNat++be 8 m.seed)++(be 1 (trimL m.lv).length++(lvsB (trimL m.lv)++tailS (mfBody m))):=by rw[e];simp only[List.append_assoc]
 refine⟨?_, ?_, ?_, ?_⟩
 ·rw[num_list e1 l4.symm (be_length _ _).symm (by decide),un_four' _ (by omega)];omega
 ·rw[num_list e2 (by rw[List.length_append,be_length];rfl) (be_length _ _).symm (by decide),un_four' _ (by omega)];omega
 ·rw[num_list e3 (by rw[List.length_append,List.length_append,be_length,be_length];rfl) (be_length _ _).symm (by decide),un_eight' _ hseed]
 ·rw[num_list e4 (by rw[List.length_append,List.length_append,List.length_append,be_length,be_length,be_length];rfl) (be_length _ _).symm (by decide),un_one' _ (by omega)]
theorem mf_level {m:ManS}{s:ByteArray}{i:Nat}{x:List Int}(h:MayM m)(hs:mfB m=s)(hx:(trimL m.lv)[i]? = some x) :
  num s (place (trimL m.lv) i) 1=x.length∧lvAt s (place (trimL m.lv) i+1) x.length=x∧place (trimL m.lv) i+1+4*x.length+4≤s.size:=by
 obtain⟨k1,k2,k3⟩:=h.lv_ok;obtain⟨x40,xb⟩:=k3 x (List.mem_of_getElem? hx);have hi:i<(trimL m.lv).length:=(List.getElem?_eq_some_iff.1 hx).1;have e:=mfB_list m;have hsz:=mfB_size m;rw[hs] at e hsz
 have eT:trimL m.lv=(trimL m.lv).take i++(x::(trimL m.lv).drop (i+1)):=by
  have:=(List.getElem?_eq_some_iff.1 hx).2
  conv=>lhs;rw[← List.take_append_drop i (trimL m.lv),List.drop_eq_getElem_cons hi,this]
 have eL:lvsB (trimL m.lv)=lvsB ((trimL m.lv).take i)++(be 1 x.length++(x.flatMap u4++lvsB ((trimL m.lv).drop (i+1)))):=by
  conv=>lhs;rw[eT]
  rw[lvsB_append,lvsB_cons];unfold lvB;simp only[List.append_assoc]
 have e1:s.data.toList=(mfTop m++lvsB ((trimL m.lv).take i))++(be 1 x.length++(x.flatMap u4++(lvsB ((trimL m.lv).drop (i+1))++tailS (mfBody m)))):=by rw[e,eL];simp only[List.append_assoc]
 have e2:s.data.toList=(mfTop m++lvsB ((trimL m.lv).take i)++be 1 x.length)++(x.flatMap u4++(lvsB ((trimL m.lv).drop (i+1))++tailS (mfBody m))):=by rw[e,eL];simp only[List.append_assoc]
 have hp:place (trimL m.lv) i=(mfTop m++lvsB ((trimL m.lv).take i)).length:=by unfold place;rw[List.length_append,mfTop_length]
 refine⟨?_, ?_, ?_⟩
 ·rw[num_list e1 hp (be_length _ _).symm (by decide),un_one' _ (by omega)]
 ·exact lvAt_list e2 (by rw[List.length_append,be_length,← hp]) xb
 ·rw[eL] at hsz;simp only[List.length_append,be_length,flat4_length] at hsz;unfold place;omega
def MfAt (s:ByteArray)(i p:Nat)(L:LvL) : Prop:=∀ m,MayM m→mfB m=s→i≤(trimL m.lv).length→p=place (trimL m.lv) i∧L=(trimL m.lv).take i
theorem mf_start (s:ByteArray) : MfAt s 0 21 []:=fun m _ _ _=>⟨rfl,rfl⟩
theorem mf_step {s:ByteArray}{i p k:Nat}{L:LvL}(h:MfAt s i p L)(hk:k≤num s p 1)(he:k=num s p 1∨s.size<p+1+4*k+4) : MfAt s (i+1) (p+1+4*k) (L++[lvAt s (p+1) k]):=by
 intro m hm hs hi;obtain⟨rfl,rfl⟩:=h m hm hs (by omega);obtain⟨x,hx⟩:∃ x,(trimL m.lv)[i]? = some x:=⟨_,List.getElem?_eq_getElem hi⟩
 obtain⟨h1,h2,h3⟩:=mf_level hm hs hx;have hkx:k=x.length:=by omega
 subst hkx;refine⟨(place_succ hx).symm, ?_⟩;rw[h2,List.take_add_one,hx];rfl
def ReadsM (s:ByteArray)(r:ManS) : Prop:=∀ m,MayM m→m.seed<18446744073709551616→mfB m=s→r=trimM m
theorem mf_end {s:ByteArray}{n p:Nat}{L:LvL}(h:MfAt s n p L)(hn:n≤num s 20 1)(he:n=num s 20 1∨s.size≤p) : ReadsM s ⟨(num s 4 4:Nat),(num s 8 4:Nat),num s 12 8,L⟩:=by
 intro m hm hseed hs;obtain⟨h1,h2,h3,h4⟩:=mf_front hm hseed hs;obtain⟨h5,h6⟩:=h m hm hs (by omega)
 have hn2:n=(trimL m.lv).length:=by
  rcases he with e | e
  ·omega
  ·have hle:(lvsB ((trimL m.lv).take n)).length≤(lvsB (trimL m.lv)).length:=by
    conv=>rhs;rw[← List.take_append_drop n (trimL m.lv),lvsB_append,List.length_append]
    omega
   have:=mfB_size m;rw[hs] at this;unfold place at h5;omega
 refine ManS.ext' h1 h2 h3 ?_;show L=trimL m.lv;rw[h6,hn2,List.take_length]
def GoodM (s:ByteArray) : Prop:=∃ m,(MayM m∧m.seed<18446744073709551616)∧mfB m=s
open Classical in
noncomputable def mgE (s:ByteArray) : Int:=if GoodM s then 0 else 90
def zeroM : ManS:=⟨0,0,0,[]⟩
open Classical in
noncomputable def mgM (s:ByteArray) : ManS:=if h:GoodM s then trimM (Classical.choose h) else zeroM
theorem mg_no {s:ByteArray}(h:¬ GoodM s) : mgE s=90∧mgM s=zeroM:=by unfold mgE mgM;rw[if_neg h,dif_neg h];exact⟨rfl,rfl⟩
theorem mg_yes {s:ByteArray}{r:ManS}(h:GoodM s)(hr:ReadsM s r) : mgE s=0∧mgM s=r:=by
 unfold mgE mgM;rw[if_pos h,dif_pos h];obtain⟨⟨h1,h2⟩,h3⟩:=Classical.choose_spec h;exact⟨rfl,(hr _ h1 h2 h3).symm⟩
theorem good_reads {s:ByteArray}{r:ManS}(hr:ReadsM s r)(hseed:r.seed<18446744073709551616) : GoodM s↔MayM r∧mfB r=s:=by
 constructor
 ·rintro ⟨m,⟨h1,h2⟩,h3⟩;have e:=hr m h1 h2 h3;rw[e];exact⟨mayM_trim h1,by rw[mfB_trim];exact h3⟩
 ·rintro ⟨h1,h2⟩;exact⟨r,⟨h1,hseed⟩,h2⟩
theorem mg_back {m:ManS}(h:MayM m)(hseed:m.seed<18446744073709551616) : mgE (mfB m)=0∧mgM (mfB m)=trimM m:=by
 have hg:GoodM (mfB m):=⟨m,⟨h,hseed⟩,rfl⟩
 unfold mgE mgM;rw[if_pos hg,dif_pos hg];obtain⟨⟨h1,h2⟩,h3⟩:=Classical.choose_spec hg;refine⟨rfl, ?_⟩;generalize Classical.choose hg=m' at *
 have ra:∀ a:ManS,MayM a→a.seed<18446744073709551616→mfB a=mfB m→∃ L p,MfAt (mfB m) (num (mfB m) 20 1) p L:=by
  intro a ha hsa hea
  have hrun:∀ i,∃ L p,MfAt (mfB m) i p L:=by
   intro i
   induction i with
   | zero=>exact⟨_,_,mf_start _⟩
   | succ i ih =>
     obtain⟨L,p,h⟩:=ih;exact⟨_,_,mf_step h (Nat.le_refl _) (Or.inl rfl)⟩
  exact hrun _
 obtain⟨L,p,hL⟩:=ra m h hseed rfl;have hR:=mf_end hL (Nat.le_refl _) (Or.inl rfl);rw[← hR m' h1 h2 h3,hR m h hseed rfl]
end
section
open Go.RowKit
def restAt (s:ByteArray)(p:Nat) : ByteArray:=s.extract p s.size
theorem restAt_size (s:ByteArray)(p:Nat) : (restAt s p).size=s.size-p:=by unfold restAt;rw[ByteArray.size_extract];omega
theorem restAt_zero (s:ByteArray) : restAt s 0=s:=by
 unfold restAt;have hl:=sl_size s;rw[sl_extbs,List.drop_zero,List.take_of_length_le (by omega),bs_data]
theorem restAt_list (s:ByteArray)(p:Nat) : (restAt s p).data.toList=s.data.toList.drop p:=by
 unfold restAt;have hl:=sl_size s;rw[sl_ext,List.take_of_length_le (by rw[List.length_drop];omega)]
theorem take_num (s:ByteArray)(p k:Nat) : getS ((restAt s p).extract 0 (min k (restAt s p).size))=num s p k:=by
 unfold num;congr 1;rw[sl_extbs,sl_extbs s p,restAt_list,restAt_size,List.drop_zero,Nat.sub_zero,show p+k-p=k by omega];congr 1;have hl:=sl_size s;rcases Nat.lt_or_ge k (s.size-p) with c | c
 ·rw[Nat.min_eq_left (by omega)]
 ·rw[Nat.min_eq_right c,List.take_of_length_le (by rw[List.length_drop];omega),List.take_of_length_le (by rw[List.length_drop];omega)]
theorem take_rest (s:ByteArray)(p k:Nat) : (restAt s p).extract (min k (restAt s p).size) (restAt s p).size=restAt s (p+k):=by
 have hl:=sl_size s;have hr:=restAt_size s p;rw[← bs_data ((restAt s p).extract _ _),← bs_data (restAt s (p+k)),sl_ext,restAt_list,restAt_list];congr 1;rw[List.drop_drop,List.take_of_length_le (by rw[List.length_drop];omega)];rcases Nat.lt_or_ge k (restAt s p).size with c | c
 ·rw[Nat.min_eq_left (by omega)]
 ·rw[Nat.min_eq_right c,List.drop_eq_nil_of_le (by omega),List.drop_eq_nil_of_le (by omega)]
theorem ext_all (r:ByteArray) : r.extract 0 r.size=r:=by
 have hl:=sl_size r;rw[sl_extbs,List.drop_zero,List.take_of_length_le (by omega),bs_data]
theorem ext_none (r:ByteArray) : r.extract r.size r.size=ByteArray.empty:=by
 rw[sl_extbs,Nat.sub_self,List.take_zero];rfl
def TakeEnd (w:World)(g:Nat)(x:Nat)(t:ByteArray)(e:Ending)(w':World) : Prop:=e = .returned (.int .u64 (x:Nat))∧w'=w.setCell ⟨g,0,none⟩ (.string t)
set_option maxHeartbeats 1000000 in
theorem take_raw (r:ByteArray)(k g:Nat)(w:World)(hk:1≤k)(hk8:k≤8)(hr:r.size≤1100000)(h0:w.cell? ⟨g,0,none⟩=some (.string r))(h1:w.frozen? ⟨g,0,none⟩=false) :
  Calls Tryz.prog 223 #[.pointer (some ⟨g,0,none⟩),.int .i64 (k:Nat)] w (TakeEnd w g (getS (r.extract 0 (min k r.size))) (r.extract (min k r.size) r.size)):=by
 have HG:=Lib.hid (fun(m:Nat)=>get_any (r.extract 0 m) w (by rw[ByteArray.size_extract];unfold maxLen;omega));unfold TakeEnd;obtain⟨z,hz⟩:∃ z,z=r.size:=⟨_,rfl⟩
 rw[← hz] at hr ⊢;rcases Nat.lt_trichotomy k z with c | c | c
 ·rw[Nat.min_eq_left (by omega)];have HG1:=Lib.hid (HG.out k);clear HG;subst hz;go_enter Tryz.func223,Tryz.ntmps223;go_wp2_with fail;refine HG1.out.mono ?_;rintro e w' ⟨rfl,rfl⟩;go_wp2;go_ret;exact⟨rfl,rfl⟩
 ·obtain rfl:k=z:=c;rw[Nat.min_self];have HG1:=Lib.hid (HG.out k);clear HG;subst hz;rw[ext_all] at HG1 ⊢;rw[ext_none];go_enter Tryz.func223,Tryz.ntmps223;go_wp2_with fail;refine HG1.out.mono ?_;rintro e w' ⟨rfl,rfl⟩;go_wp2;go_ret;exact⟨rfl,rfl⟩
 ·rw[Nat.min_eq_right (by omega)];have HG1:=Lib.hid (HG.out z);clear HG;by_cases hz0:z=0
  ·subst hz0
   have hr0:r=ByteArray.empty:=by
    have:r.data.toList=[]:=List.length_eq_zero_iff.1 (by rw[sl_size];exact hz.symm);rw[← bs_data r,this];rfl
   subst hr0;have e1:ByteArray.empty.extract 0 0=ByteArray.empty:=by rw[sl_extbs];rfl
   rw[e1] at HG1 ⊢;clear e1 hz;go_enter Tryz.func223,Tryz.ntmps223;go_wp2_with fail;refine HG1.out.mono ?_;rintro e w' ⟨rfl,rfl⟩;go_wp2;go_ret;exact⟨rfl,rfl⟩
  ·subst hz;rw[ext_all] at HG1 ⊢;rw[ext_none];go_enter Tryz.func223,Tryz.ntmps223;go_wp2_with fail;refine HG1.out.mono ?_;rintro e w' ⟨rfl,rfl⟩;go_wp2;go_ret;exact⟨rfl,rfl⟩
theorem take_any (s:ByteArray)(p k g:Nat)(w:World)(hk:1≤k)(hk8:k≤8)(hs:s.size≤1100000)(h0:w.cell? ⟨g,0,none⟩=some (.string (restAt s p)))(h1:w.frozen? ⟨g,0,none⟩=false) :
  Calls Tryz.prog 223 #[.pointer (some ⟨g,0,none⟩),.int .i64 (k:Nat)] w (TakeEnd w g (num s p k) (restAt s (p+k))):=by
 have h:=take_raw (restAt s p) k g w hk hk8 (by rw[restAt_size];omega) h0 h1;rw[take_num,take_rest] at h;exact h
def recS (p:ByteArray) : ByteArray:=sealS (bs (be 4 p.size)++p)++bs (be 4 p.size)
theorem sealS_size (s:ByteArray) : (sealS s).size=s.size+4:=by unfold sealS;rw[ByteArray.size_append,bs_size,tailS_length]
theorem recS_size (p:ByteArray) : (recS p).size=p.size+12:=by
 unfold recS;rw[ByteArray.size_append,sealS_size,ByteArray.size_append,bs_size,be_length];omega
def prS (p:ByteArray) : ByteArray:=if 2000<p.size then ByteArray.empty else recS p
def prE (p:ByteArray) : Int:=if 2000<p.size then 3 else 0
def gtLen (s:ByteArray)(k:Nat) : Nat:=getS (s.extract k (k+4))
def gtOk (s:ByteArray)(k:Nat) : Bool:=decide (k+12≤s.size∧gtLen s k≤2000∧k+gtLen s k+12≤s.size∧s.extract k (k+gtLen s k+12)=recS (s.extract (k+4) (k+4+gtLen s k)))
def getOk (s:ByteArray)(a:Int) : Bool:=decide (0≤a)&&gtOk s a.toNat
def getP (s:ByteArray)(a:Int) : ByteArray:=if getOk s a=true then s.extract (a.toNat+4) (a.toNat+4+gtLen s a.toNat) else ByteArray.empty
def getN (s:ByteArray)(a:Int) : Nat:=if getOk s a=true then a.toNat+gtLen s a.toNat+12 else 0
theorem getOk_nat (s:ByteArray)(k:Nat) : getOk s (k:Nat)=gtOk s k:=by simp[getOk]
theorem gt_no {s:ByteArray}{a:Int}(h:getOk s a=false) : getP s a=ByteArray.empty∧getN s a=0:=by simp[getP,getN,h]
theorem gt_yes {s:ByteArray}{k:Nat}(h:gtOk s k=true) : getOk s (k:Nat)=true∧getP s (k:Nat)=s.extract (k+4) (k+4+gtLen s k)∧getN s (k:Nat)=k+gtLen s k+12:=by
 have e:getOk s (k:Nat)=true:=by rw[getOk_nat];exact h
 simp[getP,getN,e]
theorem gtOk_iff {s:ByteArray}{k:Nat} : gtOk s k=true↔(k+12≤s.size∧gtLen s k≤2000∧k+gtLen s k+12≤s.size∧s.extract k (k+gtLen s k+12)=recS (s.extract (k+4) (k+4+gtLen s k))):=by simp[gtOk]
theorem gtOk_false {s:ByteArray}{k:Nat}(h:¬ (k+12≤s.size∧gtLen s k≤2000∧k+gtLen s k+12≤s.size∧s.extract k (k+gtLen s k+12)=recS (s.extract (k+4) (k+4+gtLen s k)))) : gtOk s k=false:=by
 cases e:gtOk s k with
 | false=>rfl
 | true=>exact absurd (gtOk_iff.1 e) h
theorem getN_le (s:ByteArray)(a:Int) : getN s a≤s.size:=by
 unfold getN;by_cases h:getOk s a=true
 ·rw[if_pos h];have h2:gtOk s a.toNat=true:=by simp[getOk] at h;exact h.2
  have:=gtOk_iff.1 h2;omega
 ·rw[if_neg h];exact Nat.zero_le _
theorem getN_lt {s:ByteArray}{k:Nat}(h:gtOk s k=true) : k+12≤getN s (k:Nat)∧getN s (k:Nat)≤s.size:=by
 obtain⟨_,_,e⟩:=gt_yes h;have:=gtOk_iff.1 h;rw[e];omega
def whL (s:ByteArray) : Nat→Nat→List Int
 | 0,_=>[]
 | n+1,k=>if gtOk s k=true then(k:Int)::whL s n (getN s (k:Nat)) else []
def whE (s:ByteArray) : Nat→Nat→Nat
 | 0,k=>k
 | n+1,k=>if gtOk s k=true then whE s n (getN s (k:Nat)) else k
def wlL (s:ByteArray)(a:Int) : List Int:=if 0≤a∧a≤s.size then whL s (s.size+1) a.toNat else []
def wlE (s:ByteArray)(a:Int) : Nat:=if 0≤a∧a≤s.size then whE s (s.size+1) a.toNat else 0
theorem wh_more (s:ByteArray) : ∀ (n m k:Nat),s.size<k+n→s.size<k+m→k≤s.size→whL s n k=whL s m k∧whE s n k=whE s m k
 | 0,m,k,h1,h2,hk=>by omega
 | n+1,0,k,h1,h2,hk=>by omega
 | n+1,m+1,k,h1,h2,hk=>by
   unfold whL whE;by_cases h:gtOk s k=true
   ·have hl:=getN_lt h;obtain⟨e1,e2⟩:=wh_more s n m (getN s (k:Nat)) (by omega) (by omega) (by omega);rw[if_pos h,if_pos h,if_pos h,if_pos h,e1,e2];exact⟨rfl,rfl⟩
   ·rw[if_neg h,if_neg h,if_neg h,if_neg h];exact⟨rfl,rfl⟩
theorem wh_step {s:ByteArray}{k:Nat}(hk:k≤s.size)(h:gtOk s k=true) :
  whL s (s.size+1) k=(k:Int)::whL s (s.size+1) (getN s (k:Nat))∧whE s (s.size+1) k=whE s (s.size+1) (getN s (k:Nat)):=by
 have hl:=getN_lt h;obtain⟨e1,e2⟩:=wh_more s s.size (s.size+1) (getN s (k:Nat)) (by omega) (by omega) (by omega);constructor
 ·rw[whL,if_pos h,e1]
 ·rw[whE,if_pos h,e2]
theorem wh_stop {s:ByteArray}{k:Nat}(h:gtOk s k=false) : whL s (s.size+1) k=[]∧whE s (s.size+1) k=k:=by
 constructor
 ·rw[whL,if_neg (by rw[h];decide)]
 ·rw[whE,if_neg (by rw[h];decide)]
def NoRec (w:World)(e:Ending)(w':World) : Prop:=e = .returned (.tuple #[.string ByteArray.empty,.int .i64 0,.bool false])∧Below w.heap.size w w'
theorem rtxt_eq {a b:ByteArray}(h:a=b) : (a.toList==b.toList)=true:=by rw[h,beq_iff_eq]
theorem rtxt_ne {a b:ByteArray}(h:¬ a=b) : (a.toList != b.toList)=true:=by
 rw[bne_iff_ne];intro x;rw[Lib.toList_data,Lib.toList_data] at x;exact h (ByteArray.ext (Array.toList_inj.1 x))
def GotRec (s:ByteArray)(a:Int)(w:World)(e:Ending)(w':World) : Prop:=e = .returned (.tuple #[.string (getP s a),.int .i64 (getN s a:Nat),.bool (getOk s a)])∧Below w.heap.size w w'
theorem got_no {s:ByteArray}{a:Int}{w w':World}{e:Ending}(h:getOk s a=false)(hn:NoRec w e w') : GotRec s a w e w':=by
 obtain⟨e1,e2⟩:=gt_no h;unfold GotRec;rw[e1,e2,h];exact hn
def i64V (n:Int) : Value:=.int .i64 n
theorem IntsIn.of_owns {w:World}{base:Nat}{e:TypeId}{v:Value}{l:List Int}(h:w.ownsRow base e 1 v l.length (l.map i64V)) : IntsIn w v l:=by
 have h':=h;rcases h.2 with⟨hv,h0⟩ | ⟨g,cap,cur,hv,hg,hh,hn,hm,hsz,ht⟩
 ·exact Or.inl ⟨List.length_eq_zero_iff.1 h0,none,0,hv⟩
 ·refine Or.inr ⟨g,0,cap,hv,hn,hm,(Array.getElem?_eq_some_iff.1 hh).1,fun i x hx=>?_⟩;rw[hv] at h';have hi:i<l.length:=(List.getElem?_eq_some_iff.1 hx).1;rw[Nat.zero_add,h'.cellAt i (by omega),List.getElem?_map,hx];rfl
theorem iowns_block {w:World}{base n size:Nat}{e:TypeId}{v:Value}{xs:List Value}(h:w.ownsRow base e size v n xs) : ∀ k,v.ownBlock=some k→base≤k:=by
 intro k hk;rcases h.2 with⟨rfl,_⟩ | ⟨g,cap,cur,rfl,hg,_⟩
 ·cases hk
 ·cases hk;exact hg
def WholeRec (s:ByteArray)(a:Int)(w:World)(e:Ending)(w':World) : Prop:=∃ u,e = .returned (.tuple #[u,.int .i64 (wlE s a:Nat)])∧IntsIn w' u (wlL s a)∧Below w.heap.size w w'
theorem ext_mid (a x b:ByteArray){i j:Nat}(hi:i=a.size)(hj:j=a.size+x.size) : (a++x++b).extract i j=x:=by
 subst hi hj;rw[ByteArray.append_assoc];apply ByteArray.ext;apply Array.toList_inj.1;have ha:a.data.toList.length=a.size:=Array.length_toList;have hx:x.data.toList.length=x.size:=Array.length_toList;rw[ByteArray.data_extract,Array.toList_extract,List.extract];simp only[ByteArray.data_append,Array.toList_append];rw[List.drop_left' ha,Nat.add_sub_cancel_left,List.take_left' hx]
theorem rec_parts (p:ByteArray) : recS p=bs (be 4 p.size)++(p++(bs (tailS (bs (be 4 p.size)++p).data.toList)++bs (be 4 p.size))):=by
 unfold recS sealS;simp only[ByteArray.append_assoc]
theorem get_four (n:Nat)(h:n<4294967296) : getS (bs (be 4 n))=n:=by
 unfold getS;have:(bs (be 4 n)).data.toList=be 4 n:=by simp[bs]
 rw[this,List.take_of_length_le (by rw[be_length];omega),un_be];exact Nat.mod_eq_of_lt (by omega)
theorem rec_len (a p b:ByteArray)(hp:p.size≤2000) : gtLen (a++recS p++b) a.size=p.size:=by
 unfold gtLen
 have e:a++recS p++b=a++bs (be 4 p.size)++((p++(bs (tailS (bs (be 4 p.size)++p).data.toList)++bs (be 4 p.size)))++b):=by
  rw[rec_parts];simp only[ByteArray.append_assoc]
 rw[e,ext_mid _ _ _ rfl (by rw[bs_size,be_length]),get_four _ (by omega)]
theorem rec_load (a p b:ByteArray) : (a++recS p++b).extract (a.size+4) (a.size+4+p.size)=p:=by
 have e:a++recS p++b=(a++bs (be 4 p.size))++p++((bs (tailS (bs (be 4 p.size)++p).data.toList)++bs (be 4 p.size))++b):=by
  rw[rec_parts];simp only[ByteArray.append_assoc]
 rw[e];exact ext_mid _ _ _ (by rw[ByteArray.size_append,bs_size,be_length]) (by rw[ByteArray.size_append,bs_size,be_length])
theorem rec_stands (a p b:ByteArray)(hp:p.size≤2000) : gtOk (a++recS p++b) a.size=true∧getP (a++recS p++b) (a.size:Nat)=p∧getN (a++recS p++b) (a.size:Nat)=a.size+(p.size+12):=by
 have h1:=rec_len a p b hp;have h2:=rec_load a p b;have hz:(a++recS p++b).size=a.size+(p.size+12)+b.size:=by rw[ByteArray.size_append,ByteArray.size_append,recS_size]
 have hok:gtOk (a++recS p++b) a.size=true:=by
  rw[gtOk_iff,h1,h2];refine⟨by omega,hp,by omega, ?_⟩;exact ext_mid _ _ _ rfl (by rw[recS_size];omega)
 obtain⟨_,e2,e3⟩:=gt_yes hok;refine⟨hok, ?_, ?_⟩
 ·rw[e2,h1,h2]
 ·rw[e3,h1];omega
theorem bs_list (s:ByteArray) : bs s.data.toList=s:=by
 apply ByteArray.ext;simp[bs]
theorem be_getS (s:ByteArray)(h:s.size=4) : bs (be 4 (getS s))=s:=by
 have hl:s.data.toList.length=4:=by rw[Array.length_toList];exact h
 unfold getS;rw[List.take_of_length_le (by omega)];have e:=be_un s.data.toList;rw[hl] at e;rw[e,bs_list]
theorem getS_four (s:ByteArray)(h:s.size≤4) : getS s<4294967296:=by
 unfold getS;have h1:=un_lt (s.data.toList.take 8);have h2:(s.data.toList.take 8).length≤4:=by rw[List.length_take,Array.length_toList];have:s.data.size=s.size:=rfl;omega
 have h3:256 ^ (s.data.toList.take 8).length≤256 ^ 4:=Nat.pow_le_pow_right (by decide) h2;have:(256:Nat) ^ 4=4294967296:=by decide
 omega
theorem join_ext (s:ByteArray)(i j k:Nat)(h1:i≤j)(h2:j≤k) : s.extract i j++s.extract j k=s.extract i k:=by
 rw[ByteArray.extract_append_extract,Nat.min_eq_left h1,Nat.max_eq_right h2]
theorem opOk_iff {s:ByteArray}(h:4≤s.size) : opOk s=true↔s=sealS (s.extract 0 (s.size-4)):=by
 have hz:(s.extract 0 (s.size-4)).size=s.size-4:=by rw[ByteArray.size_extract];omega
 have hj:s.extract 0 (s.size-4)++s.extract (s.size-4) s.size=s:=by rw[join_ext _ _ _ _ (by omega) (by omega),ByteArray.extract_zero_size]
 unfold opOk sealS;rw[decide_eq_true_iff];constructor
 ·rintro ⟨_,e⟩;rw[← e,hj]
 ·intro e;refine⟨h, ?_⟩;have e2:=congrArg (fun x=>x.extract (s.size-4) s.size) e;rw[e2];have:=ext_mid (s.extract 0 (s.size-4)) (bs (tailS (s.extract 0 (s.size-4)).data.toList)) ByteArray.empty (i:=s.size-4) (j:=s.size) hz.symm (by rw[hz,bs_size,tailS_length];omega);rw[ByteArray.append_empty] at this;exact this
theorem rec_iff (R:ByteArray)(n:Nat)(hR:R.size=n+12)(hn:getS (R.extract 0 4)=n) :
  R=recS (R.extract 4 (4+n))↔(R.extract (n+8) (n+12)=R.extract 0 4∧opOk (R.extract 0 (n+8))=true):=by
 have z4:(R.extract 0 4).size=4:=by rw[ByteArray.size_extract];omega
 have zp:(R.extract 4 (4+n)).size=n:=by rw[ByteArray.size_extract];omega
 have z8:(R.extract 0 (n+8)).size=n+8:=by rw[ByteArray.size_extract];omega
 have hb:=be_getS _ z4;rw[hn] at hb;have hj:R.extract 0 4++R.extract 4 (4+n)=R.extract 0 (n+4):=by rw[join_ext _ _ _ _ (by omega) (by omega),Nat.add_comm 4 n]
 have hx:(R.extract 0 (n+8)).extract 0 (n+4)=R.extract 0 (n+4):=by rw[ByteArray.extract_extract];congr 1<;>omega
 have hw:R.extract 0 (n+8)++R.extract (n+8) (n+12)=R:=by rw[join_ext _ _ _ _ (by omega) (by omega),← hR,ByteArray.extract_zero_size]
 have hrec:recS (R.extract 4 (4+n))=sealS (R.extract 0 (n+4))++R.extract 0 4:=by
  unfold recS;rw[zp,hb,hj]
 have ho:=opOk_iff (s:=R.extract 0 (n+8)) (by omega);rw[z8,show n+8-4=n+4 by omega,hx] at ho;rw[ho,hrec];have zs:(sealS (R.extract 0 (n+4))).size=n+8:=by rw[sealS_size,ByteArray.size_extract];omega
 constructor
 ·intro e;constructor
  ·have e2:=congrArg (fun x=>x.extract (n+8) (n+12)) e;rw[e2];have:=ext_mid (sealS (R.extract 0 (n+4))) (R.extract 0 4) ByteArray.empty (i:=n+8) (j:=n+12) zs.symm (by rw[zs,z4]);rw[ByteArray.append_empty] at this;exact this
  ·have e2:=congrArg (fun x=>x.extract 0 (n+8)) e;rw[e2];have:=ext_mid ByteArray.empty (sealS (R.extract 0 (n+4))) (R.extract 0 4) (i:=0) (j:=n+8) rfl (by rw[zs];simp);rw[ByteArray.empty_append] at this;exact this
 ·rintro ⟨e1,e2⟩;rw[← e1,← e2,hw]
theorem rec_take (R:ByteArray)(n:Nat)(hR:R.size=n+12)(h:opOk (R.extract 0 (n+8))=true) : (opA (R.extract 0 (n+8))).extract 4 (opA (R.extract 0 (n+8))).size=R.extract 4 (4+n):=by
 have z8:(R.extract 0 (n+8)).size=n+8:=by rw[ByteArray.size_extract];omega
 have hx:opA (R.extract 0 (n+8))=R.extract 0 (n+4):=by
  unfold opA;rw[if_pos h,z8,ByteArray.extract_extract];congr 1<;>omega
 rw[hx,ByteArray.extract_extract,ByteArray.size_extract];congr 1<;>omega
theorem opA_size (R:ByteArray)(n:Nat)(hR:R.size=n+12)(h:opOk (R.extract 0 (n+8))=true) : (opA (R.extract 0 (n+8))).size=n+4:=by
 have z8:(R.extract 0 (n+8)).size=n+8:=by rw[ByteArray.size_extract];omega
 unfold opA;rw[if_pos h,z8,ByteArray.size_extract];omega
theorem rput_no (p:ByteArray)(w:World)(hp:p.size≤maxLen)(h:2000<p.size) :
  Calls Tryz.prog 62 #[.string p] w fun e w'=>e = .returned (.tuple #[.string ByteArray.empty,.int .i64 3])∧Below w.heap.size w w':=by
 unfold maxLen at hp;go_enter Tryz.func62,Tryz.ntmps62;go_wp2;go_ret2;exact⟨rfl,Below.refl _ _⟩
theorem rput_yes (p:ByteArray)(w:World)(h:p.size≤2000) :
  Calls Tryz.prog 62 #[.string p] w fun e w'=>e = .returned (.tuple #[.string (recS p),.int .i64 0])∧Below w.heap.size w w':=by
 have H1:=Lib.hid fun W=>put_some p.size 4 W (by omega) (by omega) (by omega)
 have hz:(bs (be 4 p.size)++p).size=p.size+4:=by rw[ByteArray.size_append,bs_size,be_length];omega
 have h4:(bs (be 4 p.size)).size=4:=by rw[bs_size,be_length]
 have a1:∀ w:World,(Op.stringOp .add (bs (be 4 p.size)) p).run Tryz.prog w = .ok (.string (bs (be 4 p.size)++p)) w:=fun w=>run_string_add_sum (P:=Tryz.prog) (w:=w) _ _ (by omega)
 have H2:=Lib.hid fun W=>seal_any (bs (be 4 p.size)++p) W (by unfold maxLen;omega)
 have hs:=sealS_size (bs (be 4 p.size)++p);have a2:∀ w:World,(Op.stringOp .add (sealS (bs (be 4 p.size)++p)) (bs (be 4 p.size))).run Tryz.prog w = .ok (.string (recS p)) w:=fun w=>run_string_add_sum (P:=Tryz.prog) (w:=w) _ _ (by omega)
 generalize recS p=R at *;generalize sealS (bs (be 4 p.size)++p)=S at *;generalize bs (be 4 p.size)++p=T at *;generalize bs (be 4 p.size)=N at *;clear hz h4 hs;go_enter Tryz.func62,Tryz.ntmps62;go_wp2_with fail;refine(H1.out _).mono ?_;rintro e w1 ⟨rfl,hb1⟩;go_wp2_with fail;refine(H2.out _).mono ?_;rintro e w2 ⟨rfl,hb2⟩;go_wp2;go_ret2;exact⟨rfl,bj hb1 hb2⟩
theorem rput_any (p:ByteArray)(w:World)(hp:p.size≤maxLen) :
  Calls Tryz.prog 62 #[.string p] w fun e w'=>e = .returned (.tuple #[.string (prS p),.int .i64 (prE p)])∧Below w.heap.size w w':=by
 unfold prS prE;by_cases h:2000<p.size
 ·rw[if_pos h,if_pos h];exact rput_no p w hp h
 ·rw[if_neg h,if_neg h];exact rput_yes p w (by omega)
theorem place_any (s:ByteArray)(a:Int)(w:World)(hs:s.size≤maxLen)(wa:(Lit.int .i64 a).wf=true) :
  Calls Tryz.prog 149 #[.string s,.int .i64 a] w fun e w'=>e = .returned (.bool (decide (0≤a∧a≤s.size)))∧w=w':=by
 have hb:=bounds_i64 wa;unfold maxLen at hs;by_cases h0:0≤a
 ·by_cases h1:a≤s.size
  ·rw[decide_eq_true ⟨h0,h1⟩];go_enter Tryz.func149,Tryz.ntmps149;go_wp2;go_ret;exact⟨rfl,rfl⟩
  ·rw[decide_eq_false (fun h=>h1 h.2)];go_enter Tryz.func149,Tryz.ntmps149;go_wp2;go_ret;exact⟨rfl,rfl⟩
 ·rw[decide_eq_false (fun h=>h0 h.1)];go_enter Tryz.func149,Tryz.ntmps149;go_wp2;go_ret;exact⟨rfl,rfl⟩
theorem size_any (s:ByteArray)(w:World)(hs:s.size≤maxLen)(h4:4≤s.size) :
  Calls Tryz.prog 191 #[.string s] w fun e w'=>e = .returned (.tuple #[.int .i64 (if 2000<getS (s.extract 0 4) then 0 else(getS (s.extract 0 4):Nat)),.bool (decide (getS (s.extract 0 4)≤2000))])∧w=w':=by
 have H1:=Lib.hid fun W=>get_any (s.extract 0 4) W (by unfold maxLen at *;rw[ByteArray.size_extract];omega)
 have hn:=getS_four (s.extract 0 4) (by rw[ByteArray.size_extract];omega);generalize getS (s.extract 0 4)=n at *;unfold maxLen at hs;by_cases h:2000<n
 ·rw[if_pos h,decide_eq_false (by omega)];go_enter Tryz.func191,Tryz.ntmps191;go_wp2_with fail;refine(H1.out _).mono ?_;rintro e w1 ⟨rfl,rfl⟩;go_wp2;go_ret2;exact⟨rfl,rfl⟩
 ·rw[if_neg h,decide_eq_true (by omega)];go_enter Tryz.func191,Tryz.ntmps191;go_wp2_with fail;refine(H1.out _).mono ?_;rintro e w1 ⟨rfl,rfl⟩;go_wp2;go_ret2;exact⟨rfl,rfl⟩
def askOk (s:ByteArray) : Bool:=decide (12≤s.size∧getS (s.extract 0 4)≤2000∧getS (s.extract 0 4)+12≤s.size)
def askS (s:ByteArray) : ByteArray:=if askOk s=true then s.extract 0 (getS (s.extract 0 4)+12) else ByteArray.empty
theorem asked_any (s:ByteArray)(w:World)(hs:s.size≤maxLen) :
  Calls Tryz.prog 150 #[.string s] w fun e w'=>e = .returned (.tuple #[.string (askS s),.bool (askOk s)])∧w=w':=by
 unfold askS;by_cases h12:12≤s.size
 ·have H1:=Lib.hid fun W=>size_any s W hs (by omega)
  have hn:=getS_four (s.extract 0 4) (by rw[ByteArray.size_extract];omega);have e0:askOk s=decide (getS (s.extract 0 4)≤2000∧getS (s.extract 0 4)+12≤s.size):=by unfold askOk;simp[h12]
  rw[e0];clear e0;generalize getS (s.extract 0 4)=n at *;unfold maxLen at hs;by_cases h:2000<n
  ·rw[decide_eq_false (by omega),if_neg (by decide)];rw[decide_eq_false (by omega)] at H1;go_enter Tryz.func150,Tryz.ntmps150;go_wp2_with fail;refine(H1.out _).mono ?_;rintro e w1 ⟨rfl,rfl⟩;go_wp2;go_ret2;exact⟨rfl,rfl⟩
  ·rw[decide_eq_true (show n≤2000 by omega),if_neg h] at H1;by_cases h2:n+12≤s.size
   ·rw[decide_eq_true ⟨by omega,h2⟩,if_pos rfl];have x1:((n:Int)+12).toNat=n+12:=by omega
    have y1:¬ (s.size:Int)-12<(n:Int):=by omega
    go_enter Tryz.func150,Tryz.ntmps150;go_wp2_with fail;refine(H1.out _).mono ?_;rintro e w1 ⟨rfl,rfl⟩;go_wp2;go_ret2;exact⟨rfl,rfl⟩
   ·rw[decide_eq_false (fun h=>h2 h.2),if_neg (by decide)];have y1:(s.size:Int)-12<(n:Int):=by omega
    go_enter Tryz.func150,Tryz.ntmps150;go_wp2_with fail;refine(H1.out _).mono ?_;rintro e w1 ⟨rfl,rfl⟩;go_wp2;go_ret2;exact⟨rfl,rfl⟩
 ·have e0:askOk s=false:=by unfold askOk;simp[h12]
  rw[e0,if_neg (by decide)];unfold maxLen at hs;go_enter Tryz.func150,Tryz.ntmps150;go_wp2;go_ret2;exact⟨rfl,rfl⟩
theorem rget_out (s:ByteArray)(a:Int)(w:World)(hs:s.size≤maxLen)(wa:(Lit.int .i64 a).wf=true)(h:¬ (0≤a∧a≤s.size)) :
  Calls Tryz.prog 85 #[.string s,.int .i64 a] w (NoRec w):=by
 have H1:=Lib.hid fun W=>place_any s a W hs wa
 rw[decide_eq_false h] at H1;go_enter Tryz.func85,Tryz.ntmps85;go_wp2_with fail;refine(H1.out _).mono ?_;rintro e w1 ⟨rfl,rfl⟩;go_wp2;go_ret3;exact⟨rfl,Below.refl _ _⟩
theorem rget_none (s:ByteArray)(k:Nat)(w:World)(hs:s.size≤maxLen)(hk:k≤s.size)
  (hp:∀ w:World,Calls Tryz.prog 149 #[.string s,.int .i64 (k:Nat)] w fun e w'=>e = .returned (.bool true)∧w=w')
  (ha:∀ w:World,Calls Tryz.prog 150 #[.string (s.extract k s.size)] w fun e w'=>e = .returned (.tuple #[.string ByteArray.empty,.bool false])∧w=w') :
  Calls Tryz.prog 85 #[.string s,.int .i64 (k:Nat)] w (NoRec w):=by
 have H1:=Lib.hid hp;have H2:=Lib.hid ha;clear hp ha;unfold maxLen at hs;go_enter Tryz.func85,Tryz.ntmps85;go_wp2_with fail;refine(H1.out _).mono ?_;rintro e w1 ⟨rfl,rfl⟩;go_wp2_with fail;refine(H2.out _).mono ?_;rintro e w1 ⟨rfl,rfl⟩;go_wp2;go_ret3;exact⟨rfl,Below.refl _ _⟩
theorem rget_two (s:ByteArray)(k:Nat)(w:World)(hs:s.size≤maxLen)(hk:k≤s.size)(R:ByteArray)(hR:12≤R.size)(hR2:R.size≤2012)
  (hp:∀ w:World,Calls Tryz.prog 149 #[.string s,.int .i64 (k:Nat)] w fun e w'=>e = .returned (.bool true)∧w=w')
  (ha:∀ w:World,Calls Tryz.prog 150 #[.string (s.extract k s.size)] w fun e w'=>e = .returned (.tuple #[.string R,.bool true])∧w=w')
  (hq:¬ R.extract (R.size-4) R.size=R.extract 0 4) :
  Calls Tryz.prog 85 #[.string s,.int .i64 (k:Nat)] w (NoRec w):=by
 have H1:=Lib.hid hp;have H2:=Lib.hid ha;have q1:=rtxt_ne hq;have q2:=list_ne hq;have x1:((R.size:Int)-4).toNat=R.size-4:=by omega
 have x2:(0:Int)≤(R.size:Int)-4:=by omega
 have x3:(R.size:Int)-4≤R.size:=by omega
 have x4:(4:Int)≤(R.size:Int):=by omega
 clear hp ha hq;unfold maxLen at hs;go_enter Tryz.func85,Tryz.ntmps85;go_wp2_with fail;refine(H1.out _).mono ?_;rintro e w1 ⟨rfl,rfl⟩;go_wp2_with fail;refine(H2.out _).mono ?_;rintro e w1 ⟨rfl,rfl⟩;go_wp2_with fail;go_region
 go_wp2;go_ret3;exact⟨rfl,below_drewN (Below.refl _ _) _⟩
theorem rget_bad (s:ByteArray)(k:Nat)(w:World)(hs:s.size≤maxLen)(hk:k≤s.size)(R T:ByteArray)(hR:12≤R.size)(hR2:R.size≤2012)(hR3:k+R.size≤s.size)
  (hp:∀ w:World,Calls Tryz.prog 149 #[.string s,.int .i64 (k:Nat)] w fun e w'=>e = .returned (.bool true)∧w=w')
  (ha:∀ w:World,Calls Tryz.prog 150 #[.string (s.extract k s.size)] w fun e w'=>e = .returned (.tuple #[.string R,.bool true])∧w=w')
  (hq:R.extract (R.size-4) R.size=R.extract 0 4)
  (ho:∀ w:World,Calls Tryz.prog 151 #[.string (R.extract 0 (R.size-4))] w fun e w'=>e = .returned (.tuple #[.string T,.bool false])∧Below w.heap.size w w') :
  Calls Tryz.prog 85 #[.string s,.int .i64 (k:Nat)] w (NoRec w):=by
 have H1:=Lib.hid hp;have H2:=Lib.hid ha;have H3:=Lib.hid ho;have q1:=rtxt_eq hq;have q2:(!((R.extract (R.size-4) R.size).toList==(R.extract 0 4).toList))=false:=by rw[q1];rfl
 have q3:((R.extract (R.size-4) R.size).toList != (R.extract 0 4).toList)=false:=by simpa using q1
 have x1:((R.size:Int)-4).toNat=R.size-4:=by omega
 have x2:(0:Int)≤(R.size:Int)-4:=by omega
 have x3:(R.size:Int)-4≤R.size:=by omega
 have x4:(4:Int)≤(R.size:Int):=by omega
 clear hp ha hq ho;unfold maxLen at hs;go_enter Tryz.func85,Tryz.ntmps85;go_wp2_with fail;refine(H1.out _).mono ?_;rintro e w1 ⟨rfl,rfl⟩;go_wp2_with fail;refine(H2.out _).mono ?_;rintro e w1 ⟨rfl,rfl⟩;go_wp2_with fail;go_region
 go_wp2_with fail;refine(H3.out _).mono ?_;rintro e w1 ⟨rfl,hb1⟩;have hb2:=bj (below_drewN (Below.refl w.heap.size w) _) hb1;clear hb1;go_wp2;go_ret3;exact⟨rfl,hb2⟩
theorem rget_yes (s:ByteArray)(k:Nat)(w:World)(hs:s.size≤maxLen)(hk:k≤s.size)(R T:ByteArray)(hR:12≤R.size)(hR2:R.size≤2012)(hR3:k+R.size≤s.size)
  (hp:∀ w:World,Calls Tryz.prog 149 #[.string s,.int .i64 (k:Nat)] w fun e w'=>e = .returned (.bool true)∧w=w')
  (ha:∀ w:World,Calls Tryz.prog 150 #[.string (s.extract k s.size)] w fun e w'=>e = .returned (.tuple #[.string R,.bool true])∧w=w')
  (hq:R.extract (R.size-4) R.size=R.extract 0 4)
  (ho:∀ w:World,Calls Tryz.prog 151 #[.string (R.extract 0 (R.size-4))] w fun e w'=>e = .returned (.tuple #[.string T,.bool true])∧Below w.heap.size w w')
  (hT:4≤T.size) (hT2:T.size≤3000) :
  Calls Tryz.prog 85 #[.string s,.int .i64 (k:Nat)] w fun e w'=>e = .returned (.tuple #[.string (T.extract 4 T.size),.int .i64 ((k:Int)+(R.size:Int)),.bool true])∧Below w.heap.size w w':=by
 have H1:=Lib.hid hp;have H2:=Lib.hid ha;have H3:=Lib.hid ho;have q1:=rtxt_eq hq;have q2:(!((R.extract (R.size-4) R.size).toList==(R.extract 0 4).toList))=false:=by rw[q1];rfl
 have q3:((R.extract (R.size-4) R.size).toList != (R.extract 0 4).toList)=false:=by simpa using q1
 have x1:((R.size:Int)-4).toNat=R.size-4:=by omega
 have x2:(0:Int)≤(R.size:Int)-4:=by omega
 have x3:(R.size:Int)-4≤R.size:=by omega
 have x4:(4:Int)≤(R.size:Int):=by omega
 clear hp ha hq ho;unfold maxLen at hs;go_enter Tryz.func85,Tryz.ntmps85;go_wp2_with fail;refine(H1.out _).mono ?_;rintro e w1 ⟨rfl,rfl⟩;go_wp2_with fail;refine(H2.out _).mono ?_;rintro e w1 ⟨rfl,rfl⟩;go_wp2_with fail;go_region
 go_wp2_with fail;refine(H3.out _).mono ?_;rintro e w1 ⟨rfl,hb1⟩;have hb2:=bj (below_drewN (Below.refl w.heap.size w) _) hb1;clear hb1;go_wp2;go_ret3;exact⟨rfl,hb2⟩
theorem sub_ext (s:ByteArray)(k m i j:Nat)(h:j≤m) : (s.extract k (k+m)).extract i j=s.extract (k+i) (k+j):=by
 rw[ByteArray.extract_extract,Nat.min_eq_left (by omega)]
set_option maxHeartbeats 400000 in
theorem rget_any (s:ByteArray)(a:Int)(w:World)(hs:s.size≤maxLen)(wa:(Lit.int .i64 a).wf=true) :
  Calls Tryz.prog 85 #[.string s,.int .i64 a] w (GotRec s a w):=by
 by_cases h:¬ (0≤a∧a≤s.size)
 ·refine(rget_out s a w hs wa h).mono fun e w' hn=>got_no ?_ hn
  unfold getOk;by_cases h0:0≤a
  ·rw[gtOk_false (by omega),Bool.and_false]
  ·rw[decide_eq_false h0,Bool.false_and]
 ·obtain⟨k,rfl⟩:∃ k:Nat,a=k:=⟨a.toNat,by omega⟩
  have hk:k≤s.size:=by omega
  have hp:∀ w:World,Calls Tryz.prog 149 #[.string s,.int .i64 (k:Nat)] w fun e w'=>e = .returned (.bool true)∧w=w':=fun W=>by
   have:=place_any s (k:Nat) W hs wa;rw[decide_eq_true (by omega)] at this;exact this
  have ha:=fun W=>asked_any (s.extract k s.size) W (by unfold maxLen at *;rw[ByteArray.size_extract];omega)
  have hz:(s.extract k s.size).size=s.size-k:=by rw[ByteArray.size_extract];omega
  have ex:∀ i j,j≤s.size-k→(s.extract k s.size).extract i j=s.extract (k+i) (k+j):=fun i j hj=>by
   rw[ByteArray.extract_extract];congr 1;omega
  by_cases h12:k+12≤s.size
  ·have e4:getS ((s.extract k s.size).extract 0 4)=gtLen s k:=by rw[ex _ _ (by omega)];rfl
   by_cases h2:gtLen s k≤2000∧k+gtLen s k+12≤s.size
   ·have hok:askOk (s.extract k s.size)=true:=by
     unfold askOk;rw[e4,hz];exact decide_eq_true ⟨by omega,h2.1,by omega⟩
    have hS:askS (s.extract k s.size)=s.extract k (k+gtLen s k+12):=by
     unfold askS;rw[if_pos hok,e4,ex _ _ (by omega),Nat.add_zero,Nat.add_assoc]
    rw[hok,hS] at ha;have zR:(s.extract k (k+gtLen s k+12)).size=gtLen s k+12:=by rw[ByteArray.size_extract];omega
    have gR:getS ((s.extract k (k+gtLen s k+12)).extract 0 4)=gtLen s k:=by
     rw[Nat.add_assoc,sub_ext _ _ _ _ _ (by omega),Nat.add_zero];rfl
    have hi:=rec_iff _ _ zR gR
    have hpay:(s.extract k (k+gtLen s k+12)).extract 4 (4+gtLen s k)=s.extract (k+4) (k+4+gtLen s k):=by
     rw[Nat.add_assoc,sub_ext _ _ _ _ _ (by omega),← Nat.add_assoc]
    rw[hpay] at hi;have ht:=rec_take _ _ zR;rw[hpay] at ht;have hts:=opA_size _ _ zR;have ho:=fun W=>open_any ((s.extract k (k+gtLen s k+12)).extract 0 (gtLen s k+8)) W (by unfold maxLen at *;rw[ByteArray.size_extract];omega)
    have hgo:=gtOk_iff (s:=s) (k:=k);obtain⟨hn1,hn2⟩:=h2;generalize hRR:s.extract k (k+gtLen s k+12)=R at *;have e8:R.size-4=gtLen s k+8:=by omega
    by_cases hq:R.extract (gtLen s k+8) (gtLen s k+12)=R.extract 0 4
    ·by_cases hop:opOk (R.extract 0 (gtLen s k+8))=true
     ·obtain⟨g1,g2,g3⟩:=gt_yes (hgo.2 ⟨h12,hn1,hn2,hi.2 ⟨hq,hop⟩⟩);rw[hop] at ho;unfold GotRec;rw[g1,g2,g3];have hy:=rget_yes s k w hs hk R _ (by omega) (by omega) (by omega) hp ha (by rw[e8,zR];exact hq) (by rw[e8];exact ho) (by rw[hts hop];omega) (by rw[hts hop];omega);rw[ht hop,zR,show(k:Int)+((gtLen s k+12:Nat):Int)=((k+gtLen s k+12:Nat):Int) by omega] at hy;exact hy
     ·have hop':opOk (R.extract 0 (gtLen s k+8))=false:=by simpa using hop
      rw[hop'] at ho;refine(rget_bad s k w hs hk R _ (by omega) (by omega) (by omega) hp ha (by rw[e8,zR];exact hq) (by rw[e8];exact ho)).mono fun e w' hn=>got_no ?_ hn
      rw[getOk_nat];exact gtOk_false (fun q=>hop (hi.1 (hRR.symm.trans q.2.2.2)).2)
    ·refine(rget_two s k w hs hk R (by omega) (by omega) hp ha (by rw[e8,zR];exact hq)).mono fun e w' hn=>got_no ?_ hn
     rw[getOk_nat];exact gtOk_false (fun q=>hq (hi.1 (hRR.symm.trans q.2.2.2)).1)
   ·have hok:askOk (s.extract k s.size)=false:=by
     unfold askOk;rw[e4,hz];exact decide_eq_false (by omega)
    have hS:askS (s.extract k s.size)=ByteArray.empty:=by unfold askS;rw[hok];rfl
    rw[hok,hS] at ha;refine(rget_none s k w hs hk hp ha).mono fun e w' hn=>got_no ?_ hn
    rw[getOk_nat];exact gtOk_false (by omega)
  ·have hok:askOk (s.extract k s.size)=false:=by
    unfold askOk;rw[hz];exact decide_eq_false (by omega)
   have hS:askS (s.extract k s.size)=ByteArray.empty:=by unfold askS;rw[hok];rfl
   rw[hok,hS] at ha;refine(rget_none s k w hs hk hp ha).mono fun e w' hn=>got_no ?_ hn
   rw[getOk_nat];exact gtOk_false (by omega)
theorem ev_bits_run (b:Nat)(w:World) : (callFunc 123 #[.float .f64 b]).run Tryz.prog w = .ok (.value (.int .u64 (b:Nat))) w:=by
 rw[run_callFunc_extern Tryz.func123 (by kernel_rfl) (by kernel_rfl) (by kernel_rfl) (e:=Extern.MathFloatBits.float64bits) (by kernel_rfl)];rfl
theorem check_any (t d:ByteArray)(b:Nat)(w:World)(ht:t.size≤maxLen)(hd:d.size≤maxLen) :
  Calls Tryz.prog 122 #[.agg #[.string t,.string d,.float .f64 b]] w fun e w'=>e = .returned (.int .i64 (chk t d))∧Below w.heap.size w w':=by
 unfold maxLen at ht hd;by_cases h0:t.size=0
 ·rw[chk_arg h0];go_enter Tryz.func122,Tryz.ntmps122;go_wp2;go_ret;exact⟨rfl,(Below.refl _ _).alloc (Nat.le_refl _) _⟩
 by_cases h1:16<t.size
 ·rw[chk_long h0 (by omega)];go_enter Tryz.func122,Tryz.ntmps122;go_wp2;go_ret;exact⟨rfl,(Below.refl _ _).alloc (Nat.le_refl _) _⟩
 by_cases h2:200<d.size
 ·rw[chk_long h0 (by omega)];go_enter Tryz.func122,Tryz.ntmps122;go_wp2;go_ret;exact⟨rfl,(Below.refl _ _).alloc (Nat.le_refl _) _⟩
 ·rw[chk_ok h0 (by omega)];go_enter Tryz.func122,Tryz.ntmps122;go_wp2;go_ret;exact⟨rfl,(Below.refl _ _).alloc (Nat.le_refl _) _⟩
theorem keep_cell {W0 W:World}{p:Addr}{v:Value}(h:Below W0.heap.size W0 W)(hp:p.block<W0.heap.size)(hc:W0.cell? p=some v) : W.cell? p=some v:=(h.cell hp).trans hc
theorem text_on (s:ByteArray)(hs:s.size≤200)(W0 W:World)(h:Below W0.heap.size W0 W) :
  Calls Tryz.prog 57 #[.string s] W fun e w'=>e = .returned (.string (bs (be 2 s.size)++s))∧Below W0.heap.size W0 w' :=
 (text_yes s W (by omega)).mono fun e w' ⟨he,hb⟩=>⟨he,bj h hb⟩
theorem put_on (b:Nat)(hb:b<18446744073709551616)(W0 W:World)(h:Below W0.heap.size W0 W) :
  Calls Tryz.prog 58 #[.int .u64 (b:Nat),.int .i64 8] W fun e w'=>e = .returned (.string (bs (be 8 b)))∧Below W0.heap.size W0 w' :=
 (put_some b 8 W (by omega) (by omega) hb).mono fun e w' ⟨he,hb⟩=>⟨he,bj h hb⟩
set_option maxHeartbeats 1600000 in
set_option maxRecDepth 100000 in
theorem bytes_yes (t d:ByteArray)(b:Nat)(w:World)(hb:b<18446744073709551616)(h:chk t d=0) :
  Calls Tryz.prog 59 #[.agg #[.string t,.string d,.float .f64 b]] w fun e w'=>e = .returned (.string (evB t d b))∧Below w.heap.size w w':=by
 have hz:=chk_zero.1 h;have Hc:=fun W=>check_any t d b W (by unfold maxLen;omega) (by unfold maxLen;omega)
 rw[h] at Hc;have HC:=Lib.hid Hc;have HT:=Lib.hid (text_on t (by omega));have HD:=Lib.hid (text_on d (by omega));have HP:=Lib.hid (put_on b hb);have HB:=fun w=>ev_bits_run b w
 have s1:(bs (be 2 t.size)++t).size=t.size+2:=by rw[ByteArray.size_append,bs_size,be_length];omega
 have s2:(bs (be 2 d.size)++d).size=d.size+2:=by rw[ByteArray.size_append,bs_size,be_length];omega
 have s3:(bs (be 8 b)).size=8:=by rw[bs_size,be_length]
 have e:evB t d b=bs (be 2 t.size)++t++(bs (be 2 d.size)++d)++bs (be 8 b):=rfl;have a1:∀ w:World,(Op.stringOp .add (bs (be 2 t.size)++t) (bs (be 2 d.size)++d)).run Tryz.prog w = .ok (.string (bs (be 2 t.size)++t++(bs (be 2 d.size)++d))) w:=fun w=>run_string_add_sum (P:=Tryz.prog) (w:=w) _ _ (by omega)
 have s4:(bs (be 2 t.size)++t++(bs (be 2 d.size)++d)).size=t.size+2+(d.size+2):=by rw[ByteArray.size_append,s1,s2]
 have a2:∀ w:World,(Op.stringOp .add (bs (be 2 t.size)++t++(bs (be 2 d.size)++d)) (bs (be 8 b))).run Tryz.prog w = .ok (.string (evB t d b)) w:=fun w=>run_string_add_sum (P:=Tryz.prog) (w:=w) _ _ (by omega)
 generalize evB t d b=B at *;generalize bs (be 2 t.size)++t++(bs (be 2 d.size)++d)=X at *;generalize bs (be 2 t.size)++t=T at *;generalize bs (be 2 d.size)++d=D at *;generalize bs (be 8 b)=Q at *;clear s1 s2 s3 s4 e Hc h hz hb;go_enter Tryz.func59,Tryz.ntmps59;go_wp2_with fail;refine(HC.out _).mono ?_;rintro e w1 ⟨rfl,hb1⟩;have hz1:=hb1.size;rw[World.size_alloc] at hz1;have k0:w1.cell? ⟨w.heap.size,0,none⟩=some (.string t):=keep_cell hb1 (by simp) (World.cell?_alloc_at _ _ _ _ rfl);have k1:w1.cell? ⟨w.heap.size,1,none⟩=some (.string d):=keep_cell hb1 (by simp) (World.cell?_alloc_at _ _ _ _ rfl);have k2:w1.cell? ⟨w.heap.size,2,none⟩=some (.float .f64 b):=keep_cell hb1 (by simp) (World.cell?_alloc_at _ _ _ _ rfl);have hbw:Below w.heap.size w w1:=((Below.refl _ _).alloc (Nat.le_refl _) _).trans (hb1.mono (by simp))
 have HS:Hid (∀ W,Below w1.heap.size w1 W→Below w1.heap.size w1 W∧W.cell? ⟨w.heap.size,0,none⟩=some (.string t)∧W.cell? ⟨w.heap.size,1,none⟩=some (.string d)∧W.cell? ⟨w.heap.size,2,none⟩=some (.float .f64 b)) :=
  Lib.hid fun W hW=>⟨hW,keep_cell hW (show w.heap.size<_ by omega) k0,keep_cell hW (show w.heap.size<_ by omega) k1,keep_cell hW (show w.heap.size<_ by omega) k2⟩
 have HT2:=Lib.hid fun W (h:Below w1.heap.size w1 W∧W.cell? ⟨w.heap.size,0,none⟩=some (.string t)∧W.cell? ⟨w.heap.size,1,none⟩=some (.string d)∧W.cell? ⟨w.heap.size,2,none⟩=some (.float .f64 b))=>HT.out w1 W h.1
 have HD2:=Lib.hid fun W (h:Below w1.heap.size w1 W∧W.cell? ⟨w.heap.size,0,none⟩=some (.string t)∧W.cell? ⟨w.heap.size,1,none⟩=some (.string d)∧W.cell? ⟨w.heap.size,2,none⟩=some (.float .f64 b))=>HD.out w1 W h.1
 have HP2:=Lib.hid fun W (h:Below w1.heap.size w1 W∧W.cell? ⟨w.heap.size,0,none⟩=some (.string t)∧W.cell? ⟨w.heap.size,1,none⟩=some (.string d)∧W.cell? ⟨w.heap.size,2,none⟩=some (.float .f64 b))=>HP.out w1 W h.1
 clear hb1 HT HD HP;go_wp2_with fail
 go_region_held3 (fun W=>Below w1.heap.size w1 W∧W.cell? ⟨w.heap.size,0,none⟩=some (.string t)∧W.cell? ⟨w.heap.size,1,none⟩=some (.string d)∧W.cell? ⟨w.heap.size,2,none⟩=some (.float .f64 b))
  (first | assumption | exact HS.out _ (by assumption) | exact HS.out _ (Below.refl _ _).drew | fail) (first
  | (go_at_call 57;((with_reducible refine(HT2.out _ (by assumption)).mono ?_);rintro e w' ⟨rfl,hb⟩))
  | (go_at_call 57;((with_reducible refine(HD2.out _ (by assumption)).mono ?_);rintro e w' ⟨rfl,hb⟩))
  | (go_at_call 58;((with_reducible refine(HP2.out _ (by assumption)).mono ?_);rintro e w' ⟨rfl,hb⟩))
  | fail)
 all_goals
  go_wp2;go_ret;exact⟨rfl,hbw.trans ((And.left (‹Below w1.heap.size w1 _∧_›)).mono hbw.size)⟩
end
end Go.Proofs.YtokbfellcadkpaaGreat
namespace Go.Proofs.YtokbfellcadkpaaGreat
open Go.RowKit
set_option linter.unusedVariables false
theorem run_store_float (P:Program)(w:World)(a:Addr)(m:Mode)(k:FloatKind)(b:Nat) : (store a (.float k b) m).run P w=stored P w a (.float k b) m:=run_store P w a _ m rfl
attribute [local go_sem] run_store_float
def EvAt (w:World)(g:Nat)(t d:ByteArray)(b:Nat) : Prop:=w.heap[g]? = some (.cells #[.string t,.string d,.float .f64 b] 55 (0,0))
theorem EvAt.c0 {w:World}{g:Nat}{t d:ByteArray}{b:Nat}(h:EvAt w g t d b) : w.cell? ⟨g,0,none⟩=some (.string t):=by unfold EvAt at h;simp[World.cell?,h]
theorem EvAt.c1 {w:World}{g:Nat}{t d:ByteArray}{b:Nat}(h:EvAt w g t d b) : w.cell? ⟨g,1,none⟩=some (.string d):=by unfold EvAt at h;simp[World.cell?,h]
theorem EvAt.c2 {w:World}{g:Nat}{t d:ByteArray}{b:Nat}(h:EvAt w g t d b) : w.cell? ⟨g,2,none⟩=some (.float .f64 b):=by unfold EvAt at h;simp[World.cell?,h]
theorem EvAt.fz {w:World}{g:Nat}{t d:ByteArray}{b:Nat}(h:EvAt w g t d b)(i:Nat) : w.frozen? ⟨g,i,none⟩=false:=by unfold EvAt at h;simp[World.frozen?,h]
theorem EvAt.new (w:World)(t d:ByteArray)(b:Nat) : EvAt (w.alloc (.cells #[.string t,.string d,.float .f64 b] 55)) w.heap.size t d b:=by
 show(w.heap.push _)[w.heap.size]? = _;simp
theorem EvAt.lt {w:World}{g:Nat}{t d:ByteArray}{b:Nat}(h:EvAt w g t d b) : g<w.heap.size:=by
 obtain⟨hlt,_⟩:=Array.getElem?_eq_some_iff.1 h;exact hlt
theorem EvAt.below {w w':World}{g:Nat}{t d:ByteArray}{b:Nat}(h:EvAt w g t d b)(hb:Below w.heap.size w w') : EvAt w' g t d b:=(hb.block g h.lt).trans h
theorem EvAt.set3 {w:World}{g:Nat}{t d:ByteArray}{b:Nat}(h:EvAt w g t d b)(t' d':ByteArray)(b':Nat) :
  EvAt (((w.setCell ⟨g,0,none⟩ (.string t')).setCell ⟨g,1,none⟩ (.string d')).setCell ⟨g,2,none⟩ (.float .f64 b')) g t' d' b':=by
 unfold EvAt at h ⊢;simp[World.setCell,Array.getElem?_modify,h]
theorem below_set3 {w w2:World}(h:Below w.heap.size w w2)(t' d':Value)(b':Value) :
  Below w.heap.size w (((w2.setCell ⟨w.heap.size,0,none⟩ t').setCell ⟨w.heap.size,1,none⟩ d').setCell ⟨w.heap.size,2,none⟩ b'):=((h.setCell (Nat.le_refl _) _).setCell (Nat.le_refl _) _).setCell (Nat.le_refl _) _
theorem read_no_one (s:ByteArray)(w:World)(hs:s.size≤maxLen)(h:¬ 8≤(erL s).size) :
  Calls Tryz.prog 267 #[.string s] w fun e w'=>e = .returned (.tuple #[.agg #[.string ByteArray.empty,.string ByteArray.empty,.float .f64 0],.string ByteArray.empty,.bool false])∧Below w.heap.size w w':=by
 have H1:=Lib.hid fun W=>read_any s W hs
 have H2:=Lib.hid fun W=>read_any (rdB s) W (Nat.le_trans (rdB_size s) hs)
 have hl:(erL s).size<8:=by omega
 have he:rdB (rdB s)=erL s:=rfl;rw[he] at H2;have E0:=EvAt.new w ByteArray.empty ByteArray.empty 0;generalize erL s=L at *;generalize rdB s=R at *;generalize rdA s=A at *;generalize rdOk s=o at *;generalize rdA R=A2 at *;generalize rdOk R=o2 at *;clear he h hs;go_enter Tryz.func267,Tryz.ntmps267;go_wp2_with fail;refine(H1.out _).mono ?_;rintro e w1 ⟨rfl,hb1⟩;have E1:=E0.below hb1;go_wp2_with fail;refine(H2.out _).mono ?_;rintro e w2 ⟨rfl,hb2⟩;have E2:=E1.below hb2;have hbw:Below w.heap.size w w2:=(((Below.refl _ _).alloc (Nat.le_refl _) _).trans (hb1.mono (by simp))).trans (hb2.mono (by have:=hb1.size;simp at this;omega));have k0:=E2.c0;have k1:=E2.c1;have k2:=E2.c2;have f0:=E2.fz 0;have f1:=E2.fz 1;have f2:=E2.fz 2;clear E0 E1 E2 hb1 hb2;go_wp2_with fail;exact bodyPost_ret (v:=.tuple #[.agg #[.string ByteArray.empty,.string ByteArray.empty,.float .f64 0],.string ByteArray.empty,.bool false]) (by simp[results,Tryz.results267,go_sem,k0,k1,k2];rfl) rfl ⟨rfl,below_set3 hbw _ _ _⟩
theorem read_no_two (s:ByteArray)(w:World)(hs:s.size≤maxLen)(h:8≤(erL s).size)(hk:¬ chk (rdA s) (rdA (rdB s))=0) :
  Calls Tryz.prog 267 #[.string s] w fun e w'=>e = .returned (.tuple #[.agg #[.string ByteArray.empty,.string ByteArray.empty,.float .f64 0],.string ByteArray.empty,.bool false])∧Below w.heap.size w w':=by
 have H1:=Lib.hid fun W=>read_any s W hs
 have H2:=Lib.hid fun W=>read_any (rdB s) W (Nat.le_trans (rdB_size s) hs)
 have H3:=Lib.hid fun W=>get_any (erL s) W (Nat.le_trans (rdB_size _) (Nat.le_trans (rdB_size s) hs))
 have hfb:=fun b w=>frombits_run b w
 have HC:=fun b W=>check_any (rdA s) (rdA (rdB s)) b W (Nat.le_trans (rdA_size _) hs) (Nat.le_trans (rdA_size _) (Nat.le_trans (rdB_size s) hs))
 have he:rdB (rdB s)=erL s:=rfl;rw[he] at H2;have E0:=EvAt.new w ByteArray.empty ByteArray.empty 0;rcases chk_cases (rdA s) (rdA (rdB s)) with hc | hc | hc
 ·exact absurd hc hk
 all_goals
  rw[hc] at HC;have HC2:=Lib.hid HC;clear HC hc hk;generalize getS (erL s)=n at *;generalize erL s=L at *;generalize rdB s=R at *;generalize rdA s=A at *;generalize rdOk s=o at *;generalize rdA R=A2 at *;generalize rdOk R=o2 at *;clear he hs;go_enter Tryz.func267,Tryz.ntmps267;go_wp2_with fail;refine(H1.out _).mono ?_;rintro e w1 ⟨rfl,hb1⟩;have E1:=E0.below hb1;go_wp2_with fail;refine(H2.out _).mono ?_;rintro e w2 ⟨rfl,hb2⟩;have E2:=E1.below hb2;have hbw:Below w.heap.size w w2:=(((Below.refl _ _).alloc (Nat.le_refl _) _).trans (hb1.mono (by simp))).trans (hb2.mono (by have:=hb1.size;simp at this;omega));have k0:=E2.c0;have k1:=E2.c1;have k2:=E2.c2;have f0:=E2.fz 0;have f1:=E2.fz 1;have f2:=E2.fz 2;have HE3:=Lib.hid (E2.set3 A A2 n);have HB3:=Lib.hid (below_set3 hbw (.string A) (.string A2) (.float .f64 n));clear E0 E1 E2 hb1 hb2 hbw;go_wp2_with fail;refine(H3.out _).mono ?_;rintro e w' ⟨rfl,rfl⟩;go_wp2_with fail;refine(HC2.out _ _).mono ?_;rintro e w3 ⟨rfl,hb3⟩;have E4:=HE3.out.below hb3;have hbw4:=bj HB3.out hb3;clear hb3 HE3 HB3 k0 k1 k2 f0 f1 f2;have k0:=E4.c0;have k1:=E4.c1;have k2:=E4.c2;have f0:=E4.fz 0;have f1:=E4.fz 1;have f2:=E4.fz 2;clear E4;go_wp2_with fail;exact bodyPost_ret (v:=.tuple #[.agg #[.string ByteArray.empty,.string ByteArray.empty,.float .f64 0],.string ByteArray.empty,.bool false]) (by simp[results,Tryz.results267,go_sem,k0,k1,k2];rfl) rfl ⟨rfl,below_set3 hbw4 _ _ _⟩
theorem read_yes_one (s:ByteArray)(w:World)(hs:s.size≤maxLen)(h:8≤(erL s).size)(hk:chk (rdA s) (rdA (rdB s))=0) :
  Calls Tryz.prog 267 #[.string s] w fun e w'=>e = .returned (.tuple #[.agg #[.string (rdA s),.string (rdA (rdB s)),.float .f64 (getS (erL s))],.string ((erL s).extract 8 (erL s).size),.bool true])∧Below w.heap.size w w':=by
 have H1:=Lib.hid fun W=>read_any s W hs
 have H2:=Lib.hid fun W=>read_any (rdB s) W (Nat.le_trans (rdB_size s) hs)
 have H3:=Lib.hid fun W=>get_any (erL s) W (Nat.le_trans (rdB_size _) (Nat.le_trans (rdB_size s) hs))
 have hfb:=fun b w=>frombits_run b w
 have HC:=fun b W=>check_any (rdA s) (rdA (rdB s)) b W (Nat.le_trans (rdA_size _) hs) (Nat.le_trans (rdA_size _) (Nat.le_trans (rdB_size s) hs))
 have hlm:(erL s).size≤maxLen:=Nat.le_trans (rdB_size _) (Nat.le_trans (rdB_size s) hs);unfold maxLen at hlm;have he:rdB (rdB s)=erL s:=rfl;rw[he] at H2;have E0:=EvAt.new w ByteArray.empty ByteArray.empty 0;rw[hk] at HC;have HC2:=Lib.hid HC;clear HC hk;generalize getS (erL s)=n at *;generalize erL s=L at *;generalize rdB s=R at *;generalize rdA s=A at *;generalize rdOk s=o at *;generalize rdA R=A2 at *;generalize rdOk R=o2 at *;clear he hs;go_enter Tryz.func267,Tryz.ntmps267;go_wp2_with fail;refine(H1.out _).mono ?_;rintro e w1 ⟨rfl,hb1⟩;have E1:=E0.below hb1;go_wp2_with fail;refine(H2.out _).mono ?_;rintro e w2 ⟨rfl,hb2⟩;have E2:=E1.below hb2;have hbw:Below w.heap.size w w2:=(((Below.refl _ _).alloc (Nat.le_refl _) _).trans (hb1.mono (by simp))).trans (hb2.mono (by have:=hb1.size;simp at this;omega));have k0:=E2.c0;have k1:=E2.c1;have k2:=E2.c2;have f0:=E2.fz 0;have f1:=E2.fz 1;have f2:=E2.fz 2;have HE3:=Lib.hid (E2.set3 A A2 n);have HB3:=Lib.hid (below_set3 hbw (.string A) (.string A2) (.float .f64 n));clear E0 E1 E2 hb1 hb2 hbw;go_wp2_with fail;refine(H3.out _).mono ?_;rintro e w' ⟨rfl,rfl⟩;go_wp2_with fail;refine(HC2.out _ _).mono ?_;rintro e w3 ⟨rfl,hb3⟩;have E4:=HE3.out.below hb3;have hbw4:=bj HB3.out hb3;clear hb3 HE3 HB3 k0 k1 k2 f0 f1 f2;have k0:=E4.c0;have k1:=E4.c1;have k2:=E4.c2;have f0:=E4.fz 0;have f1:=E4.fz 1;have f2:=E4.fz 2;clear E4;go_wp2_with fail;go_region
 all_goals
  go_wp2;exact bodyPost_ret (v:=.tuple #[.agg #[.string A,.string A2,.float .f64 n],.string (L.extract 8 L.size),.bool true]) (by simp[results,Tryz.results267,go_sem,k0,k1,k2]) rfl ⟨rfl,(below_set3 hbw4 _ _ _).drew⟩
theorem er_ok {s:ByteArray}(h:8≤(erL s).size)(hk:chk (rdA s) (rdA (rdB s))=0) : erOk s=true:=by simp[erOk,h,hk]
theorem er_short {s:ByteArray}(h:¬ 8≤(erL s).size) : erOk s=false:=by simp[erOk];omega
theorem er_wrong {s:ByteArray}(hk:¬ chk (rdA s) (rdA (rdB s))=0) : erOk s=false:=by simp[erOk,hk]
theorem readev_any (s:ByteArray)(w:World)(hs:s.size≤maxLen) :
  Calls Tryz.prog 267 #[.string s] w fun e w'=>e = .returned (.tuple #[.agg #[.string (erT s),.string (erD s),.float .f64 (erW s)],.string (erR s),.bool (erOk s)])∧Below w.heap.size w w':=by
 by_cases h:8≤(erL s).size
 ·by_cases hk:chk (rdA s) (rdA (rdB s))=0
  ·obtain⟨e1,e2,e3,e4⟩:=er_yes (er_ok h hk);rw[e1,e2,e3,e4,er_ok h hk];exact read_yes_one s w hs h hk
  ·obtain⟨e1,e2,e3,e4⟩:=er_no (er_wrong hk);rw[e1,e2,e3,e4,er_wrong hk];exact read_no_two s w hs h hk
 ·obtain⟨e1,e2,e3,e4⟩:=er_no (er_short h);rw[e1,e2,e3,e4,er_short h];exact read_no_one s w hs h
end Go.Proofs.YtokbfellcadkpaaGreat

/- ZnTbMath, ZnTbSize, ZnEntOne, ZnEntFront, ZnEntList, ZnMids, ZnMdMath, ZnEntGet, ZnEntRange, ZnEntPut, ZnEntSortStep, ZnEntSortedOwn, ZnEntCells, ZnTbGet, ZnMtMem, ZnMtAddAsk, ZnMtAsk, ZnRbRef -/
import Derived.Test.YtokbfellcadkpaaGreatPn13
import Derived.Test.YtokbfellcadkpaaGreatPn04
import Derived.Test.YtokbfellcadkpaaGreatPn03
import Derived.Test.YtokbfellcadkpaaGreatPn08
import Derived.Deep.RegionHeld3
import Derived.Laws.StructEq
import Derived.Shelf.Abstract
import Derived.WalkMore
import Derived.Test.YtokbfellcadkpaaGreatPn01
import Derived.OpenShut
import Derived.Deep.RegionLaw
import Derived.Laws.MakeOwn
import Derived.Deep.RegionHeldLaw
import Derived.Deep.Cut
import Derived.Deep.AppendSrc
namespace Go.Proofs.YtokbfellcadkpaaGreat
set_option maxRecDepth 100000
set_option linter.unusedVariables false
section
open Go.RowKit
def entsL (l:List EntS) : List UInt8:=l.flatMap putL
def ptabL : List UInt8:=[112,116,97,98]
def tbHead (n:Nat) : List UInt8:=ptabL++be 4 n
def tbBody (l:List EntS) : ByteArray:=bs (tbHead l.length++entsL l)
def tbB (l:List EntS) : ByteArray:=sealS (tbBody l)
def tbOk (l:List EntS) : Bool:=sortedE l&&l.all mayE
def tbS (l:List EntS) : ByteArray:=if tbOk l=true then tbB l else ByteArray.empty
def tbE (l:List EntS) : Int:=if tbOk l=true then 0 else 2
theorem tbHead_length (n:Nat) : (tbHead n).length=8:=by unfold tbHead;rw[List.length_append,be_length];rfl
theorem entsL_cons (x:EntS)(l:List EntS) : entsL (x::l)=putL x++entsL l:=by unfold entsL;rw[List.flatMap_cons]
theorem entsL_append (a b:List EntS) : entsL (a++b)=entsL a++entsL b:=by unfold entsL;rw[List.flatMap_append]
theorem entsL_one (x:EntS) : entsL [x]=putL x:=by rw[entsL_cons];show _++[]=_;rw[List.append_nil]
theorem entsL_length : ∀ l:List EntS,(entsL l).length=24*l.length
 | []=>rfl
 | x::l=>by rw[entsL_cons,List.length_append,putL_length,entsL_length l,List.length_cons];omega
theorem entsL_take {l:List EntS}{k:Nat}{x:EntS}(h:l[k]? = some x) : entsL (l.take (k+1))=entsL (l.take k)++putL x:=by rw[ent_take l k x h,entsL_append,entsL_one]
theorem tbBody_size (l:List EntS) : (tbBody l).size=8+24*l.length:=by unfold tbBody;rw[bs_size,List.length_append,tbHead_length,entsL_length]
theorem tbB_size (l:List EntS) : (tbB l).size=12+24*l.length:=by unfold tbB;rw[seal_size,tbBody_size];omega
theorem tbB_list (l:List EntS) : (tbB l).data.toList=tbHead l.length++(entsL l++tailS (tbBody l).data.toList):=by
 unfold tbB;rw[seal_list];unfold tbBody;rw[sl_list,List.append_assoc]
theorem putE_list {x:EntS}(h:mayE x=true) : (putE x).data.toList=putL x:=by unfold putE;rw[if_pos h,en_bs_list]
theorem tbOk_iff {l:List EntS} : tbOk l=true↔sortedE l=true∧∀ x∈l,mayE x=true:=by unfold tbOk;rw[Bool.and_eq_true,List.all_eq_true]
theorem tbOk_sorted {l:List EntS}(h:sortedE l=false) : tbOk l=false:=by unfold tbOk;rw[h];rfl
theorem tbOk_may {l:List EntS}{x:EntS}(hx:x∈l)(h:mayE x=false) : tbOk l=false:=by
 cases e:tbOk l with
 | false=>rfl
 | true=>rw[(tbOk_iff.1 e).2 x hx] at h;cases h
theorem tb_no {l:List EntS}(h:tbOk l=false) : tbS l=ByteArray.empty∧tbE l=2:=by unfold tbS tbE;rw[h];exact⟨rfl,rfl⟩
theorem tb_yes {l:List EntS}(h:tbOk l=true) : tbS l=tbB l∧tbE l=0:=by unfold tbS tbE;rw[h];exact⟨rfl,rfl⟩
def tbPiece (s:ByteArray)(i:Nat) : ByteArray:=s.extract (8+24*i) (32+24*i)
def tbGot (s:ByteArray)(n:Nat) : List EntS:=(List.range n).map fun i=>enG (tbPiece s i)
def tbN (s:ByteArray) : Nat:=getS (s.extract 4 8)
def tgOk (s:ByteArray) : Bool:=decide (8≤s.size∧s.extract 0 4=bs ptabL∧tbN s≤89478484∧s.size=12+24*tbN s∧opOk s=true∧(∀ i,i<tbN s→enOk (tbPiece s i)=true)∧sortedE (tbGot s (tbN s))=true)
def tgL (s:ByteArray) : List EntS:=if tgOk s=true then tbGot s (tbN s) else []
def tgE (s:ByteArray) : Int:=if tgOk s=true then 0 else 90
theorem tgOk_iff {s:ByteArray} : tgOk s=true↔(8≤s.size∧s.extract 0 4=bs ptabL∧tbN s≤89478484∧s.size=12+24*tbN s∧opOk s=true∧(∀ i,i<tbN s→enOk (tbPiece s i)=true)∧sortedE (tbGot s (tbN s))=true):=by unfold tgOk;exact decide_eq_true_iff
theorem tg_no {s:ByteArray}(h:tgOk s=false) : tgL s=[]∧tgE s=90:=by unfold tgL tgE;rw[h];exact⟨rfl,rfl⟩
theorem tg_yes {s:ByteArray}(h:tgOk s=true) : tgL s=tbGot s (tbN s)∧tgE s=0:=by unfold tgL tgE;rw[h];exact⟨rfl,rfl⟩
theorem tbGot_length (s:ByteArray)(n:Nat) : (tbGot s n).length=n:=by unfold tbGot;rw[List.length_map,List.length_range]
theorem tbGot_at (s:ByteArray){n i:Nat}(h:i<n) : (tbGot s n)[i]? = some (enG (tbPiece s i)):=by unfold tbGot;rw[List.getElem?_map,List.getElem?_range h];rfl
theorem tbPiece_list (s:ByteArray)(i:Nat) : (tbPiece s i).data.toList=(s.data.toList.drop (8+24*i)).take 24:=by unfold tbPiece;rw[sl_ext,show 32+24*i-(8+24*i)=24 by omega]
theorem got_may (s:ByteArray){n:Nat}(h:∀ i,i<n→enOk (tbPiece s i)=true) : ∀ x∈tbGot s n,mayE x=true:=by
 intro x hx;unfold tbGot at hx;obtain⟨i,hi,rfl⟩:=List.mem_map.1 hx;exact(en_form (h i (List.mem_range.1 hi))).1
theorem un_four (n:Nat)(h:n<4294967296) : un (be 4 n)=n:=by
 have p:(256:Nat) ^ 4=4294967296:=by decide
 rw[un_be,p,Nat.mod_eq_of_lt h]
theorem four_get {s:ByteArray}{l:List UInt8}(h:s.data.toList=l)(hl:l.length=4) : getS s=un l:=by unfold getS;rw[h,List.take_of_length_le (by omega)]
theorem tbB_head (l:List EntS)(hn:l.length<4294967296) : (tbB l).extract 0 4=bs ptabL∧tbN (tbB l)=l.length:=by
 have e:=tbB_list l;have h4:ptabL.length=4:=rfl;constructor
 ·rw[sl_extbs,e];unfold tbHead;rw[List.drop_zero,List.append_assoc,List.take_left' (by exact h4)]
 ·unfold tbN;rw[four_get (l:=be 4 l.length) _ (be_length _ _),un_four _ hn];rw[sl_ext,e];unfold tbHead;rw[List.append_assoc,List.drop_left' h4,List.take_left' (be_length 4 l.length)]
theorem tbB_piece {l:List EntS}{i:Nat}{x:EntS}(h:l[i]? = some x)(hm:mayE x=true) : tbPiece (tbB l) i=putE x:=by
 have hi:i<l.length:=(List.getElem?_eq_some_iff.1 h).1
 have e:(tbPiece (tbB l) i).data.toList=putL x:=by
  rw[tbPiece_list,tbB_list,← List.drop_drop,List.drop_left' (tbHead_length _)]
  have e1:l=l.take i++(x::l.drop (i+1)):=by
   have:=(List.getElem?_eq_some_iff.1 h).2;rw[← this,← List.drop_eq_getElem_cons hi,List.take_append_drop]
  have e2:entsL l=entsL (l.take i)++(putL x++entsL (l.drop (i+1))):=by
   conv=>lhs;rw[e1]
   rw[entsL_append,entsL_cons]
  have e3:(entsL (l.take i)).length=24*i:=by rw[entsL_length,List.length_take];omega
  rw[e2,List.append_assoc,List.drop_left' e3,List.append_assoc,List.take_left' (putL_length x)]
 rw[← bs_data (tbPiece (tbB l) i),e,← putE_list hm,bs_data]
theorem tb_back {l:List EntS}(hn:l.length≤89478484)(hx:∀ x∈l,EntOk x)(hok:tbOk l=true) : tgOk (tbB l)=true∧tbGot (tbB l) l.length=l∧tgL (tbB l)=l:=by
 obtain⟨hs,hm⟩:=tbOk_iff.1 hok;obtain⟨h1,h2⟩:=tbB_head l (by omega)
 have hp:∀ i,i<l.length→enOk (tbPiece (tbB l) i)=true:=fun i hi=>by
  have hi':=List.getElem?_eq_getElem hi;have hmem:=List.getElem_mem hi;rw[tbB_piece hi' (hm _ hmem),enOk_put (hx _ hmem),hm _ hmem]
 have hg:tbGot (tbB l) l.length=l:=by
  apply List.ext_getElem?;intro i;rcases Nat.lt_or_ge i l.length with c | c
  ·have hi':=List.getElem?_eq_getElem c;have hmem:=List.getElem_mem c;rw[tbGot_at _ c,tbB_piece hi' (hm _ hmem),(en_put (hx _ hmem) (hm _ hmem)).2,hi']
  ·rw[List.getElem?_eq_none c,List.getElem?_eq_none (by rw[tbGot_length];exact c)]
 have hok2:tgOk (tbB l)=true:=tgOk_iff.2 ⟨by rw[tbB_size];omega,h1,by rw[h2];exact hn,by rw[tbB_size,h2],opOk_seal _,by rw[h2];exact hp,by rw[h2,hg];exact hs⟩;exact⟨hok2,hg,by rw[(tg_yes hok2).1,h2,hg]⟩
def tbSz (n:Int) : Int:=if n<0∨89478484<n then 0 else 12+24*n
def tbAt (n:Int) : Int:=if n<0∨89478484<n then 0 else 8+24*n
theorem tbSz_no {n:Int}(h:n<0∨89478484<n) : tbSz n=0∧tbAt n=0:=by unfold tbSz tbAt;rw[if_pos h,if_pos h];exact⟨rfl,rfl⟩
theorem tbSz_yes {n:Int}(h:¬ (n<0∨89478484<n)) : tbSz n=12+24*n∧tbAt n=8+24*n:=by unfold tbSz tbAt;rw[if_neg h,if_neg h];exact⟨rfl,rfl⟩
theorem tbSz_nat {n:Nat}(h:n≤89478484) : tbSz (n:Nat)=((12+24*n:Nat):Int)∧tbAt (n:Nat)=((8+24*n:Nat):Int):=by
 obtain⟨h1,h2⟩:=tbSz_yes (n:=(n:Nat)) (by omega);rw[h1,h2];exact⟨by omega,by omega⟩
theorem tsize_any (n:Int)(w:World) :
  Calls Tryz.prog 228 #[.int .i64 n] w fun e w'=>e = .returned (.int .i64 (tbSz n))∧w=w':=by
 by_cases h:n<0
 ·rw[(tbSz_no (Or.inl h)).1];go_enter Tryz.func228,Tryz.ntmps228;go_wp2;go_ret;exact⟨rfl,rfl⟩
 ·by_cases h2:89478484<n
  ·rw[(tbSz_no (Or.inr h2)).1];go_enter Tryz.func228,Tryz.ntmps228;go_wp2;go_ret;exact⟨rfl,rfl⟩
  ·rw[(tbSz_yes (n:=n) (by omega)).1];obtain⟨k,rfl⟩:∃ k:Nat,n=k:=⟨n.toNat,by omega⟩
   go_enter Tryz.func228,Tryz.ntmps228;go_wp2;go_ret;exact⟨ret_int (by omega),rfl⟩
theorem tat_any (n:Int)(w:World) :
  Calls Tryz.prog 212 #[.int .i64 n] w fun e w'=>e = .returned (.int .i64 (tbAt n))∧w=w':=by
 have HS:=Lib.hid (tsize_any n w);by_cases h:n<0∨89478484<n
 ·obtain⟨h1,h2⟩:=tbSz_no h;rw[h1] at HS;rw[h2];clear h h1 h2;go_enter Tryz.func212,Tryz.ntmps212;go_wp2_with fail;refine HS.out.mono ?_;rintro e w' ⟨rfl,rfl⟩;go_wp2;go_ret;exact⟨rfl,rfl⟩
 ·obtain⟨h1,h2⟩:=tbSz_yes h;obtain⟨k,rfl⟩:∃ k:Nat,n=k:=⟨n.toNat,by omega⟩
  obtain⟨z,hz⟩:∃ z:Nat,z=12+24*k:=⟨_,rfl⟩
  rw[h1,show(12:Int)+24*(k:Nat)=(z:Nat) by omega] at HS;rw[h2];have t1:((z:Int)==0)=false:=beq_eq_false_iff_ne.2 (by omega);have hk:k≤89478484:=by omega
  clear h h1 h2 hz;go_enter Tryz.func212,Tryz.ntmps212;go_wp2_with fail;refine HS.out.mono ?_;rintro e w' ⟨rfl,rfl⟩;go_wp2;go_ret;exact⟨ret_int (by omega),rfl⟩
def tbHas (s:ByteArray) : Bool:=decide (8≤s.size∧s.extract 0 4=bs ptabL)
def tbMany (s:ByteArray) : Int:=if tbHas s=true then(tbN s:Nat) else 0
theorem tb_letters : (⟨#[112,116,97,98]⟩:ByteArray)=bs ptabL:=rfl
theorem pre_four (s:ByteArray)(h8:8≤s.size) : preS s ⟨#[112,116,97,98]⟩=tbHas s:=by
 unfold preS tbHas;rw[tb_letters,decide_eq_decide];have:(bs ptabL).size=4:=rfl;rw[this];exact⟨fun h=>⟨h8,h.2⟩,fun h=>⟨by omega,h.2⟩⟩
theorem tcount_any (s:ByteArray)(w:World)(hs:s.size≤maxLen) :
  Calls Tryz.prog 227 #[.string s] w fun e w'=>e = .returned (.tuple #[.int .i64 (tbMany s),.bool (tbHas s)])∧w=w':=by
 by_cases h8:s.size<8
 ·have e0:tbHas s=false:=decide_eq_false (fun h=>by omega);have e1:tbMany s=0:=by unfold tbMany;rw[e0];rfl
  rw[e0,e1];have t1:decide ((s.size:Int)<8)=true:=decide_eq_true (by omega);clear e0 e1;unfold maxLen at hs;go_enter Tryz.func227,Tryz.ntmps227;go_wp2;go_ret2;exact⟨rfl,rfl⟩
 ·have HP:=fun W=>pre_any s ⟨#[112,116,97,98]⟩ W hs (by decide)
  rw[pre_four s (by omega)] at HP;have HG:=Lib.hid fun W=>get_any (s.extract 4 8) W (by unfold maxLen at *;rw[ByteArray.size_extract];omega)
  have hN:getS (s.extract 4 8)=tbN s:=rfl
  have hlt:tbN s<4294967296:=by
   have h:=un_lt ((s.extract 4 8).data.toList.take 8);have p:(256:Nat) ^ 4=4294967296:=by decide
   have hl:((s.extract 4 8).data.toList.take 8).length≤4:=by rw[List.length_take,sl_size,ByteArray.size_extract];omega
   exact Nat.lt_of_lt_of_le h (by rw[← p];exact Nat.pow_le_pow_right (by decide) hl)
  unfold tbMany;rw[hN] at HG;clear hN;have t1:decide ((s.size:Int)<8)=false:=decide_eq_false (by omega);have t2:(8:Int)≤(s.size:Int):=by omega
  have t3:8≤s.size:=by omega
  generalize tbN s=n at *;unfold maxLen at hs;have HP2:=Lib.hid HP;clear HP h8;cases e:tbHas s
  all_goals
   rw[e] at HP2;clear e;go_enter Tryz.func227,Tryz.ntmps227;go_wp2_with fail;refine(HP2.out _).mono ?_;rintro e w1 ⟨rfl,rfl⟩
   first
   | (go_wp2
      go_ret2;exact⟨rfl,rfl⟩)
   | (go_wp2_with fail
      refine(HG.out _).mono ?_;rintro e w1 ⟨rfl,rfl⟩;go_wp2;go_ret2;exact⟨rfl,rfl⟩)
theorem ent_eqb (x y:EntS) : ((((x.h:Int)==(y.h:Int))&&(x.v==y.v))&&(x.p==y.p))=decide (x=y):=by
 rw[Bool.eq_iff_iff,Bool.and_eq_true,Bool.and_eq_true,beq_iff_eq,beq_iff_eq,beq_iff_eq,decide_eq_true_iff];constructor
 ·rintro ⟨⟨h1,h2⟩,h3⟩;exact entS_ext (by omega) h2 h3
 ·rintro rfl;exact⟨⟨rfl,rfl⟩,rfl⟩
set_option maxRecDepth 100000 in
theorem ent_equal (x y:EntS)(w:World) : (Op.equalIn 10000 63 (entB x) (entB y)).run Tryz.prog w = .ok (decide (x=y)) w:=by
 rw[show(10000:Nat)=9998+1+1 from rfl,run_equalIn_agg w 9999 63 _ _ Tryz.underlying63 Tryz.stoodInHeld63];have e:=ent_eqb x y;by_cases h1:(x.h:Int)=(y.h:Int)
 ·by_cases h2:x.v=y.v
  ·by_cases h3:x.p=y.p
   ·have:x=y:=entS_ext (by omega) h2 h3;rw[decide_eq_true this];simp[Op.eqFields,go_sem,h1,h2,h3]
   ·have:¬ x=y:=fun h=>h3 (by rw[h])
    rw[decide_eq_false this];simp[Op.eqFields,go_sem,h1,h2,h3]
  ·have:¬ x=y:=fun h=>h2 (by rw[h])
   rw[decide_eq_false this];simp[Op.eqFields,go_sem,h1,h2]
 ·have:¬ x=y:=fun h=>h1 (by rw[h])
  rw[decide_eq_false this];simp[Op.eqFields,go_sem,h1]
theorem ent_eql (x y:EntS)(w:World) : (binOp .eql 63 (entB x) (entB y)).run Tryz.prog w = .ok (.bool (decide (x=y))) w:=by
 rw[run_eql_struct,ent_equal];rfl
theorem below_two (w:World)(o o':Obj) : Below w.heap.size w ((w.alloc o).alloc o'):=((Below.refl _ _).alloc (Nat.le_refl _) _).alloc (by simp) _
theorem eless_any (x y:EntS)(w:World) :
  Calls Tryz.prog 137 #[entB x,entB y] w fun e w'=>e = .returned (.bool (lessE x y))∧Below w.heap.size w w':=by
 obtain⟨h,v,p⟩:=x;obtain⟨h',v',p'⟩:=y;have hb:=below_two w (.cells #[.int .u64 (h:Nat),.int .i64 v,.int .i64 p] 63) (.cells #[.int .u64 (h':Nat),.int .i64 v',.int .i64 p'] 63);have e:=lessE_iff (x:=⟨h,v,p⟩) (y:=⟨h',v',p'⟩);simp only at e;generalize lessE ⟨h,v,p⟩ ⟨h',v',p'⟩=q at *;by_cases c:h=h'
 ·subst c;by_cases c:v=v'
  ·subst c;by_cases c:p<p'
   ·obtain rfl:q=true:=e.2 (by omega);clear e;go_enter Tryz.func137,Tryz.ntmps137;go_wp2;go_ret;exact⟨rfl,hb⟩
   ·obtain rfl:q=false:=Bool.eq_false_iff.2 (fun t=>by have:=e.1 t;omega);clear e;go_enter Tryz.func137,Tryz.ntmps137;go_wp2;go_ret;exact⟨rfl,hb⟩
  ·by_cases c2:v<v'
   ·obtain rfl:q=true:=e.2 (by omega);clear e;go_enter Tryz.func137,Tryz.ntmps137;go_wp2;go_ret;exact⟨rfl,hb⟩
   ·obtain rfl:q=false:=Bool.eq_false_iff.2 (fun t=>by have:=e.1 t;omega);clear e;go_enter Tryz.func137,Tryz.ntmps137;go_wp2;go_ret;exact⟨rfl,hb⟩
 ·by_cases c2:h<h'
  ·obtain rfl:q=true:=e.2 (by omega);clear e;have c3:((h:Int) != (h':Int))=true:=by simp;omega
   have c4:decide ((h:Int)<(h':Int))=true:=decide_eq_true (by omega);go_enter Tryz.func137,Tryz.ntmps137;go_wp2;go_ret;exact⟨rfl,hb⟩
  ·obtain rfl:q=false:=Bool.eq_false_iff.2 (fun t=>by have:=e.1 t;omega);clear e;have c3:((h:Int) != (h':Int))=true:=by simp;omega
   have c4:decide ((h:Int)<(h':Int))=false:=decide_eq_false (by omega);go_enter Tryz.func137,Tryz.ntmps137;go_wp2;go_ret;exact⟨rfl,hb⟩
theorem may_any (x:EntS)(w:World) :
  Calls Tryz.prog 134 #[entB x] w fun e w'=>e = .returned (.bool (mayE x))∧Below w.heap.size w w':=by
 obtain⟨h,v,p⟩:=x;have hb:=(Below.refl w.heap.size w).alloc (Nat.le_refl _) (.cells #[.int .u64 (h:Nat),.int .i64 v,.int .i64 p] 63);have e:mayE ⟨h,v,p⟩=decide (0≤v∧0≤p):=rfl;rw[e];clear e;by_cases c:0≤v
 ·by_cases c2:0≤p
  ·rw[decide_eq_true ⟨c,c2⟩];go_enter Tryz.func134,Tryz.ntmps134;go_wp2;go_ret;exact⟨rfl,hb⟩
  ·rw[decide_eq_false (fun x=>c2 x.2)];go_enter Tryz.func134,Tryz.ntmps134;go_wp2;go_ret;exact⟨rfl,hb⟩
 ·rw[decide_eq_false (fun x=>c x.1)];go_enter Tryz.func134,Tryz.ntmps134;go_wp2;go_ret;exact⟨rfl,hb⟩
end
section
open Go.RowKit Go.Shelf
theorem EntsIn.form {w:World}{v:Value}{l:List EntS}(h:EntsIn w v l) : ∃ A off cap,v = .slice A l.length cap∧l.length≤maxLen ∧
  ∀ i x,l[i]? = some x→∃ b,A=some ⟨b,off,none⟩∧b<w.heap.size∧w.cell? ⟨b,off+i*3,none⟩=some (.int .u64 (x.h:Nat))∧w.cell? ⟨b,off+i*3+1,none⟩=some (.int .i64 x.v)∧w.cell? ⟨b,off+i*3+2,none⟩=some (.int .i64 x.p):=by
 rcases h with⟨rfl,a,c,rfl⟩ | ⟨b,off,cap,rfl,h2,h3,h4,h5⟩
 ·exact⟨a,0,c,rfl,Nat.zero_le _,fun i x h=>by simp at h⟩
 ·exact⟨some ⟨b,off,none⟩,off,cap,rfl,by omega,fun i x hx=>⟨b,rfl,h4,h5 i x hx 0 _ rfl,h5 i x hx 1 _ rfl,h5 i x hx 2 _ rfl⟩⟩
end
end Go.Proofs.YtokbfellcadkpaaGreat
namespace Go.Proofs.YtokbfellcadkpaaGreat
open Go.RowKit
set_option linter.unusedVariables false
set_option maxRecDepth 100000
def entFlat (l:List EntS) : List Value:=l.flatMap entCells
theorem entFlat_length : ∀ l:List EntS,(entFlat l).length=l.length*3
 | []=>rfl
 | x::l=>by
   unfold entFlat;rw[List.flatMap_cons,List.length_append];have:=entFlat_length l;unfold entFlat at this;rw[this,List.length_cons];show 3+_=_;omega
theorem entFlat_at : ∀ (l:List EntS) (i:Nat) (x:EntS),l[i]? = some x→∀ j,j<3→(entFlat l)[i*3+j]? = (entCells x)[j]?
 | [],i,x,h=>by simp at h
 | y::l,0,x,h=>by
   intro j hj;obtain rfl:y=x:=by simpa using h
   unfold entFlat;rw[List.flatMap_cons,Nat.zero_mul,Nat.zero_add,List.getElem?_append_left (by exact hj)]
 | y::l,i+1,x,h=>by
   intro j hj;have h':l[i]? = some x:=by simpa using h
   have e:(i+1)*3+j=3+(i*3+j):=by omega
   have:=entFlat_at l i x h' j hj;unfold entFlat at *;rw[List.flatMap_cons,e,List.getElem?_append_right (by show 3≤_;omega)];show(l.flatMap entCells)[3+(i*3+j)-3]? = _;rw[Nat.add_sub_cancel_left];exact this
theorem entFlat_one {l:List EntS} : ∀ u∈entFlat l,u.oneCell'=true:=by
 intro u hu;unfold entFlat at hu;obtain⟨f,_,hf⟩:=List.mem_flatMap.1 hu;simp only[entCells,List.mem_cons,List.not_mem_nil,or_false] at hf;rcases hf with rfl | rfl | rfl<;>rfl
theorem entFlat_append (a b:List EntS) : entFlat (a++b)=entFlat a++entFlat b:=by unfold entFlat;rw[List.flatMap_append]
abbrev EntRow (w:World)(base:Nat)(v:Value)(l:List EntS) : Prop:=w.ownsRow base 63 3 v l.length (entFlat l)
theorem EntRow.in_ {w:World}{base:Nat}{v:Value}{l:List EntS}(h:EntRow w base v l) : EntsIn w v l:=by
 have h':=h;rcases h.2 with⟨hv,h0⟩ | ⟨g,cap,cur,hv,hg,hh,hn,hm,hsz,ht⟩
 ·exact Or.inl ⟨List.length_eq_zero_iff.1 h0,none,0,hv⟩
 ·by_cases hl:l=[]
  ·subst hl;exact Or.inl ⟨rfl,_,_,hv⟩
  ·refine Or.inr ⟨g,0,cap,hv,hn,hm,(Array.getElem?_eq_some_iff.1 hh).1,fun i x hx j u hu=>?_⟩;have hi:i<l.length:=(List.getElem?_eq_some_iff.1 hx).1;have hj:j<3:=by have:=(List.getElem?_eq_some_iff.1 hu).1;exact this
   rw[hv] at h';rw[Nat.zero_add];exact(h'.cellAt (i*3+j) (by omega)).trans ((entFlat_at l i x hx j hj).trans hu)
theorem EntRow.below {w w':World}{base B:Nat}{v:Value}{l:List EntS}(h:EntRow w base v l)(hb:Below B w w')(hB:w.heap.size≤B) : EntRow w' base v l:=by
 refine⟨h.1, ?_⟩;rcases h.2 with h0 | ⟨g,cap,cur,hv,hg,hh,r⟩
 ·exact Or.inl h0
 ·obtain⟨hlt,_⟩:=Array.getElem?_eq_some_iff.1 hh;exact Or.inr ⟨g,cap,cur,hv,hg,(hb.block g (Nat.lt_of_lt_of_le hlt hB)).trans hh,r⟩
theorem EntRow.nil (w:World)(base:Nat) : EntRow w base (.slice none 0 0) []:=World.ownsRow_nil _ _ _ _
theorem info_ent : (Tryz.prog.info? 63).map (fun i=>(i.zero,i.size,i.bytes))=some (some (.agg #[.int .u64 0,.int .i64 0,.int .i64 0]),3,24):=by kernel_rfl
theorem EntsIn.src {w:World}{v:Value}{l:List EntS}(h:EntsIn w v l) : SrcAt w 3 v l.length (entFlat l):=by
 refine⟨entFlat_length l, ?_⟩;rcases h with⟨rfl,a,c,rfl⟩ | ⟨b,off,cap,rfl,h2,h3,h4,h5⟩
 ·cases a with
  | none=>exact Or.inl ⟨c,rfl,rfl⟩
  | some a=>exact Or.inr ⟨a,c,rfl,fun j u hu=>by cases hu⟩
 ·refine Or.inr ⟨⟨b,off,none⟩,cap,rfl,fun j u hu=>?_⟩;have hj:j<l.length*3:=by have:=(List.getElem?_eq_some_iff.1 hu).1;rw[entFlat_length] at this;exact this
  have hi:j/3<l.length:=by omega
  have hx:l[j/3]? = some l[j/3]:=List.getElem?_eq_getElem hi;have e:j/3*3+j%3=j:=by omega
  have h6:=entFlat_at l (j/3) _ hx (j%3) (by omega);rw[e,hu] at h6;have:=h5 (j/3) _ hx (j%3) u h6.symm;rw[e] at this;have ea:(⟨b,off,none⟩:Addr).add j=⟨b,off+j,none⟩:=by unfold Addr.add;split<;>simp_all
  rw[ea];exact this
theorem ent_one (w:World)(x:EntS) : EntsIn (w.alloc (.cells #[.int .u64 (x.h:Nat),.int .i64 x.v,.int .i64 x.p] 63)) (.slice (some ⟨w.heap.size,0,none⟩) 1 1) [x]:=by
 refine Or.inr ⟨w.heap.size,0,1,rfl,Nat.le_refl _,by unfold maxLen;omega,by simp,fun i y hy j u hu=>?_⟩
 match i,hy with
 | 0,hy =>
   obtain rfl:x=y:=by simpa using hy
   match j,hu with
   | 0,hu=>rw[← hu];simp[entCells]
   | 1,hu=>rw[← hu];simp[entCells]
   | 2,hu=>rw[← hu];simp[entCells]
theorem ents_append {w:World}{base:Nat}{vs vx:Value}{l m:List EntS}(hown:EntRow w base vs l)(hsrc:EntsIn w vx m)(hl:l.length+m.length≤1000000)(hb:base≤w.heap.size)(ty:TypeId) :
  ∃ A c w',(Builtin.append_ #[37,37] ty #[vs,vx]).run Tryz.prog w = .ok (.slice A (l.length+m.length) c) w'∧EntRow w' base (.slice A (l.length+m.length) c) (l++m)∧w.grownBy w' vs.ownBlock∧((Value.slice A (l.length+m.length) c).ownBlock=vs.ownBlock∨(Value.slice A (l.length+m.length) c).ownBlock=some w.heap.size):=by
 obtain⟨i0,hi,hz0,hz1,hz2⟩:=info_parts info_ent;obtain⟨v',w',e1,e2,e3,e4⟩:=run_append_src (P:=Tryz.prog) w base 37 63 i0 _ 3 24 ty Tryz.underlying37 hi hz0 hz1 hz2 rfl (by decide) vs l.length (entFlat l) hown vx m.length (entFlat m) hsrc.src entFlat_one (by unfold maxLen;omega) (by omega) hb;obtain⟨A,c,rfl,-,-,-⟩:=own_form e2;refine⟨A,c,w',e1, ?_,e3,e4⟩;unfold EntRow;rw[entFlat_append,List.length_append];exact e2
theorem grown_below {B:Nat}{w w':World}{v:Value}(h:w.grownBy w' v.ownBlock)(hB:B≤w.heap.size)(hv:∀ k,v.ownBlock=some k→B≤k) : Below B w w':=⟨h.os,h.tape,h.output,h.size,fun k hk=>h.block k (by omega) (fun e=>by have:=hv k e.symm;omega)⟩
theorem sliced_nil (a:Option Addr)(c:Nat) : ∃ A c',sliced a 0 0 c 3 = .slice A 0 c':=by unfold sliced;exact⟨_,_,rfl⟩
section
variable {w : World} {v : Value} {l : List EntS} {k m : Nat}
theorem ents_cut {b off cap:Nat}(h2:l.length≤cap)(h3:cap≤maxLen)(hk:k≤m)(hm:m≤l.length) :
  ∃ A,sliced (some ⟨b,off,none⟩) k m cap 3 = .slice A (m-k) (cap-k)∧∀ W,b<W.heap.size→(∀ i x,l[i]? = some x→∀ j u,(entCells x)[j]? = some u→W.cell? ⟨b,off+(i*3+j),none⟩=some u)→EntsIn W (.slice A (m-k) (cap-k)) ((l.drop k).take (m-k)):=by
 have hlen:((l.drop k).take (m-k)).length=m-k:=by rw[List.length_take,List.length_drop];omega
 by_cases h0:m-k=0
 ·have hs:∃ A,sliced (some (⟨b,off,none⟩:Addr)) k m cap 3 = .slice A (m-k) (cap-k):=by unfold sliced;exact⟨_,rfl⟩
  obtain⟨A,e⟩:=hs;refine⟨A,e,fun W _ _=>Or.inl ⟨List.length_eq_zero_iff.1 (by rw[hlen];exact h0),A,_,by rw[h0]⟩⟩
 ·have e:sliced (some (⟨b,off,none⟩:Addr)) k m cap 3 = .slice (some ⟨b,off+k*3,none⟩) (m-k) (cap-k):=by
   unfold sliced;rw[if_neg (by omega)];simp[Addr.add]
  refine⟨_,e,fun W hb hc=>Or.inr ⟨b,off+k*3,cap-k,by rw[hlen],by omega,by omega,hb,fun i x hx j u hu=>?_⟩⟩;have hi:i<m-k:=by have:=(List.getElem?_eq_some_iff.1 hx).1;rw[hlen] at this;exact this
  rw[List.getElem?_take,if_pos hi,List.getElem?_drop] at hx;have:=hc (k+i) x hx j u hu;rw[show off+k*3+(i*3+j)=off+((k+i)*3+j) by omega];exact this
theorem ents_part (h:EntsIn w v l)(hk:k≤m)(hm:m≤l.length) : ∃ A c,
  (∀ W,(Instr.slice 37 v (some (.int .i64 (k:Nat))) (some (.int .i64 (m:Nat))) none).run Tryz.prog W = .ok (.slice A (m-k) c) W)∧∀ B W,w.heap.size≤B→Below B w W→EntsIn W (.slice A (m-k) c) ((l.drop k).take (m-k)):=by
 have hz:∀ W,(sizeOf (Tryz.prog.elem 37)).run Tryz.prog W = .ok 3 W:=fun W=>by simp[go_sem]
 rcases h with⟨rfl,a,c,rfl⟩ | ⟨b,off,cap,rfl,h2,h3,h4,h5⟩
 ·obtain rfl:m=0:=by simpa using hm
  obtain rfl:k=0:=by omega
  obtain⟨A,c',e⟩:=sliced_nil a c;refine⟨A,c',fun W=>?_,fun B W _ _=>Or.inl ⟨by simp,A,c',rfl⟩⟩;rw[run_slice_lh W _ a 0 c Tryz.underlying37 .i64 .i64 _ _ (by omega) (by omega) (by omega),hz];show Result.ok (sliced _ _ _ _ _) W=_;rw[Int.toNat_natCast,e]
 ·obtain⟨A,e,hA⟩:=ents_cut (l:=l) (b:=b) (off:=off) h2 h3 hk hm;refine⟨A,cap-k,fun W=>?_,fun B W hB hb=>hA W (Nat.lt_of_lt_of_le h4 hb.size) fun i x hx j u hu=>(hb.cell (p:=⟨b,off+(i*3+j),none⟩) (Nat.lt_of_lt_of_le h4 hB)).trans (h5 i x hx j u hu)⟩;rw[run_slice_lh W _ _ _ cap Tryz.underlying37 .i64 .i64 _ _ (by omega) (by omega) (by omega),hz];show Result.ok (sliced _ _ _ _ _) W=_;rw[Int.toNat_natCast,Int.toNat_natCast,e]
theorem ents_to (h:EntsIn w v l)(hm:m≤l.length) : ∃ A c,
  (∀ W,(Instr.slice 37 v none (some (.int .i64 (m:Nat))) none).run Tryz.prog W = .ok (.slice A m c) W)∧∀ B W,w.heap.size≤B→Below B w W→EntsIn W (.slice A m c) (l.take m):=by
 have hz:∀ W,(sizeOf (Tryz.prog.elem 37)).run Tryz.prog W = .ok 3 W:=fun W=>by simp[go_sem]
 rcases h with⟨rfl,a,c,rfl⟩ | ⟨b,off,cap,rfl,h2,h3,h4,h5⟩
 ·obtain rfl:m=0:=by simpa using hm
  obtain⟨A,c',e⟩:=sliced_nil a c;refine⟨A,c',fun W=>?_,fun B W _ _=>Or.inl ⟨by simp,A,c',rfl⟩⟩;rw[run_slice_h W _ a 0 c Tryz.underlying37 .i64 _ (by omega) (by omega),hz];show Result.ok (sliced _ _ _ _ _) W=_;rw[Int.toNat_natCast,e]
 ·obtain⟨A,e,hA⟩:=ents_cut (l:=l) (b:=b) (off:=off) (k:=0) h2 h3 (Nat.zero_le _) hm;refine⟨A,cap,fun W=>?_,fun B W hB hb=>hA W (Nat.lt_of_lt_of_le h4 hb.size) fun i x hx j u hu=>(hb.cell (p:=⟨b,off+(i*3+j),none⟩) (Nat.lt_of_lt_of_le h4 hB)).trans (h5 i x hx j u hu)⟩;rw[run_slice_h W _ _ _ cap Tryz.underlying37 .i64 _ (by omega) (by omega),hz];show Result.ok (sliced _ _ _ _ _) W=_;rw[Int.toNat_natCast,e];rfl
theorem ents_from (h:EntsIn w v l)(hk:k≤l.length) : ∃ A c,
  (∀ W,(Instr.slice 37 v (some (.int .i64 (k:Nat))) none none).run Tryz.prog W = .ok (.slice A (l.length-k) c) W)∧∀ B W,w.heap.size≤B→Below B w W→EntsIn W (.slice A (l.length-k) c) (l.drop k):=by
 have hz:∀ W,(sizeOf (Tryz.prog.elem 37)).run Tryz.prog W = .ok 3 W:=fun W=>by simp[go_sem]
 rcases h with⟨rfl,a,c,rfl⟩ | ⟨b,off,cap,rfl,h2,h3,h4,h5⟩
 ·obtain rfl:k=0:=by simpa using hk
  obtain⟨A,c',e⟩:=sliced_nil a c;refine⟨A,c',fun W=>?_,fun B W _ _=>Or.inl ⟨by simp,A,c',rfl⟩⟩;rw[run_slice_l W _ a 0 c Tryz.underlying37 .i64 _ (by omega) (by omega),hz];show Result.ok (sliced _ _ _ _ _) W=_;rw[Int.toNat_natCast,e];rfl
 ·obtain⟨A,e,hA⟩:=ents_cut (l:=l) (b:=b) (off:=off) h2 h3 hk (Nat.le_refl _);have et:(l.drop k).take (l.length-k)=l.drop k:=List.take_of_length_le (by rw[List.length_drop];omega);rw[et] at hA;refine⟨A,cap-k,fun W=>?_,fun B W hB hb=>hA W (Nat.lt_of_lt_of_le h4 hb.size) fun i x hx j u hu=>(hb.cell (p:=⟨b,off+(i*3+j),none⟩) (Nat.lt_of_lt_of_le h4 hB)).trans (h5 i x hx j u hu)⟩;rw[run_slice_l W _ _ _ cap Tryz.underlying37 .i64 _ (by omega) (by omega),hz];show Result.ok (sliced _ _ _ _ _) W=_;rw[Int.toNat_natCast,e]
end
end Go.Proofs.YtokbfellcadkpaaGreat
namespace Go.Proofs.YtokbfellcadkpaaGreat
set_option maxRecDepth 100000
set_option linter.unusedVariables false
section
open Go.ChangeShapes Go.WideShapes Go.ChangeAt Go.RowKit Go.Deep
structure MidS where
 e:EntS
 k:Int
def midCells (x:MidS) : List Value:=[.int .u64 (x.e.h:Nat),.int .i64 x.e.v,.int .i64 x.e.p,.int .i64 x.k]
def MidsIn (w:World)(v:Value)(l:List MidS) : Prop :=
 (l=[]∧∃ a c,v = .slice a 0 c)∨∃ b off cap,v = .slice (some ⟨b,off,none⟩) l.length cap∧l.length≤cap∧cap≤maxLen∧b<w.heap.size ∧
  ∀ i x,l[i]? = some x→∀ j u,(midCells x)[j]? = some u→w.cell? ⟨b,off+(i*4+j),none⟩=some u
theorem MidsIn.below {w w':World}{v:Value}{l:List MidS}{B:Nat}(h:MidsIn w v l)(hb:Below B w w')(hB:w.heap.size≤B) : MidsIn w' v l:=by
 rcases h with h | ⟨b,off,cap,hv,hl,hm,hlt,hc⟩
 ·exact Or.inl h
 ·exact Or.inr ⟨b,off,cap,hv,hl,hm,Nat.lt_of_lt_of_le hlt hb.size,fun i x hx j u hu=>(hb.cell (p:=⟨b,off+(i*4+j),none⟩) (Nat.lt_of_lt_of_le hlt hB)).trans (hc i x hx j u hu)⟩
def midFlat (l:List MidS) : List Value:=l.flatMap midCells
theorem midFlat_length : ∀ l:List MidS,(midFlat l).length=l.length*4
 | []=>rfl
 | x::l=>by
   unfold midFlat;rw[List.flatMap_cons,List.length_append];have:=midFlat_length l;unfold midFlat at this;rw[this,List.length_cons];show 4+_=_;omega
theorem midFlat_at : ∀ (l:List MidS) (i:Nat) (x:MidS),l[i]? = some x→∀ j,j<4→(midFlat l)[i*4+j]? = (midCells x)[j]?
 | [],i,x,h=>by simp at h
 | y::l,0,x,h=>by
   intro j hj;obtain rfl:y=x:=by simpa using h
   unfold midFlat;rw[List.flatMap_cons,Nat.zero_mul,Nat.zero_add,List.getElem?_append_left (by exact hj)]
 | y::l,i+1,x,h=>by
   intro j hj;have h':l[i]? = some x:=by simpa using h
   have e:(i+1)*4+j=4+(i*4+j):=by omega
   have:=midFlat_at l i x h' j hj;unfold midFlat at *;rw[List.flatMap_cons,e,List.getElem?_append_right (by show 4≤_;omega)];show(l.flatMap midCells)[4+(i*4+j)-4]? = _;rw[Nat.add_sub_cancel_left];exact this
theorem midFlat_one {l:List MidS} : ∀ u∈midFlat l,u.oneCell'=true:=by
 intro u hu;unfold midFlat at hu;obtain⟨f,_,hf⟩:=List.mem_flatMap.1 hu;simp only[midCells,List.mem_cons,List.not_mem_nil,or_false] at hf;rcases hf with rfl | rfl | rfl | rfl<;>rfl
theorem midFlat_append (a b:List MidS) : midFlat (a++b)=midFlat a++midFlat b:=by unfold midFlat;rw[List.flatMap_append]
abbrev MidRow (w:World)(base:Nat)(v:Value)(l:List MidS) : Prop:=w.ownsRow base 274 4 v l.length (midFlat l)
theorem MidRow.in_ {w:World}{base:Nat}{v:Value}{l:List MidS}(h:MidRow w base v l) : MidsIn w v l:=by
 have h':=h;rcases h.2 with⟨hv,h0⟩ | ⟨g,cap,cur,hv,hg,hh,hn,hm,hsz,ht⟩
 ·exact Or.inl ⟨List.length_eq_zero_iff.1 h0,none,0,hv⟩
 ·by_cases hl:l=[]
  ·subst hl;exact Or.inl ⟨rfl,_,_,hv⟩
  ·refine Or.inr ⟨g,0,cap,hv,hn,hm,(Array.getElem?_eq_some_iff.1 hh).1,fun i x hx j u hu=>?_⟩;have hi:i<l.length:=(List.getElem?_eq_some_iff.1 hx).1;have hj:j<4:=by have:=(List.getElem?_eq_some_iff.1 hu).1;exact this
   rw[hv] at h';rw[Nat.zero_add];exact(h'.cellAt (i*4+j) (by omega)).trans ((midFlat_at l i x hx j hj).trans hu)
theorem MidRow.below {w w':World}{base B:Nat}{v:Value}{l:List MidS}(h:MidRow w base v l)(hb:Below B w w')(hB:w.heap.size≤B) : MidRow w' base v l:=by
 refine⟨h.1, ?_⟩;rcases h.2 with h0 | ⟨g,cap,cur,hv,hg,hh,r⟩
 ·exact Or.inl h0
 ·obtain⟨hlt,_⟩:=Array.getElem?_eq_some_iff.1 hh;exact Or.inr ⟨g,cap,cur,hv,hg,(hb.block g (Nat.lt_of_lt_of_le hlt hB)).trans hh,r⟩
theorem MidRow.alloc {w:World}{base:Nat}{v:Value}{l:List MidS}(h:MidRow w base v l)(o:Obj) : MidRow (w.alloc o) base v l:=MidRow.below h ((Below.refl w.heap.size w).alloc (Nat.le_refl _) o) (Nat.le_refl _)
theorem MidRow.block {w:World}{base:Nat}{v:Value}{l:List MidS}(h:MidRow w base v l) : ∀ k,v.ownBlock=some k→base≤k:=by
 intro k hk;rcases h.2 with⟨rfl,_⟩ | ⟨g,cap,cur,rfl,hg,_⟩
 ·cases hk
 ·cases hk;exact hg
theorem MidRow.nil (w:World)(base:Nat) : MidRow w base (.slice none 0 0) []:=World.ownsRow_nil _ _ _ _
theorem info_mid : (Tryz.prog.info? 274).map (fun i=>(i.zero,i.size,i.bytes))=some (some (.agg #[.int .u64 0,.int .i64 0,.int .i64 0,.int .i64 0]),4,32):=by kernel_rfl
theorem MidsIn.src {w:World}{v:Value}{l:List MidS}(h:MidsIn w v l) : SrcAt w 4 v l.length (midFlat l):=by
 refine⟨midFlat_length l, ?_⟩;rcases h with⟨rfl,a,c,rfl⟩ | ⟨b,off,cap,rfl,h2,h3,h4,h5⟩
 ·cases a with
  | none=>exact Or.inl ⟨c,rfl,rfl⟩
  | some a=>exact Or.inr ⟨a,c,rfl,fun j u hu=>by cases hu⟩
 ·refine Or.inr ⟨⟨b,off,none⟩,cap,rfl,fun j u hu=>?_⟩;have hj:j<l.length*4:=by have:=(List.getElem?_eq_some_iff.1 hu).1;rw[midFlat_length] at this;exact this
  have hi:j/4<l.length:=by omega
  have hx:l[j/4]? = some l[j/4]:=List.getElem?_eq_getElem hi;have e:j/4*4+j%4=j:=by omega
  have h6:=midFlat_at l (j/4) _ hx (j%4) (by omega);rw[e,hu] at h6;have:=h5 (j/4) _ hx (j%4) u h6.symm;rw[e] at this;have ea:(⟨b,off,none⟩:Addr).add j=⟨b,off+j,none⟩:=by unfold Addr.add;split<;>simp_all
  rw[ea];exact this
theorem mid_one (w:World)(x:MidS) : MidsIn (w.alloc (.cells #[.int .u64 (x.e.h:Nat),.int .i64 x.e.v,.int .i64 x.e.p,.int .i64 x.k] 274)) (.slice (some ⟨w.heap.size,0,none⟩) 1 1) [x]:=by
 refine Or.inr ⟨w.heap.size,0,1,rfl,Nat.le_refl _,by unfold maxLen;omega,by simp,fun i y hy j u hu=>?_⟩
 match i,hy with
 | 0,hy =>
   obtain rfl:x=y:=by simpa using hy
   match j,hu with
   | 0,hu=>rw[← hu];simp[midCells]
   | 1,hu=>rw[← hu];simp[midCells]
   | 2,hu=>rw[← hu];simp[midCells]
   | 3,hu=>rw[← hu];simp[midCells]
theorem mids_append {w:World}{base:Nat}{vs vx:Value}{l m:List MidS}(hown:MidRow w base vs l)(hsrc:MidsIn w vx m)(hl:l.length+m.length≤1000000)(hb:base≤w.heap.size)(ty:TypeId) :
  ∃ A c w',(Builtin.append_ #[214,214] ty #[vs,vx]).run Tryz.prog w = .ok (.slice A (l.length+m.length) c) w'∧MidRow w' base (.slice A (l.length+m.length) c) (l++m)∧w.grownBy w' vs.ownBlock∧((Value.slice A (l.length+m.length) c).ownBlock=vs.ownBlock∨(Value.slice A (l.length+m.length) c).ownBlock=some w.heap.size):=by
 obtain⟨i0,hi,hz0,hz1,hz2⟩:=info_parts info_mid;obtain⟨v',w',e1,e2,e3,e4⟩:=run_append_src (P:=Tryz.prog) w base 214 274 i0 _ 4 32 ty Tryz.underlying214 hi hz0 hz1 hz2 rfl (by decide) vs l.length (midFlat l) hown vx m.length (midFlat m) hsrc.src midFlat_one (by unfold maxLen;omega) (by omega) hb;obtain⟨A,c,rfl,-,-,-⟩:=own_form e2;refine⟨A,c,w',e1, ?_,e3,e4⟩;unfold MidRow;rw[midFlat_append,List.length_append];exact e2
end
section
open Go.RowKit
def isMid (n k:Nat) : Bool:=decide (k%8=0)||decide (k+1=n)
def midsTo (l:List EntS) : Nat→List MidS
 | 0=>[]
 | k+1=>midsTo l k++(if isMid l.length k=true then(match l[k]? with | some x=>[⟨x,(k:Nat)⟩] | none=>[]) else [])
def midsL (l:List EntS) : List MidS:=midsTo l l.length
theorem mids_yes {l:List EntS}{k:Nat}{x:EntS}(h:l[k]? = some x)(hm:isMid l.length k=true) : midsTo l (k+1)=midsTo l k++[⟨x,(k:Nat)⟩]:=by
 rw[midsTo,if_pos hm,h]
theorem mids_no {l:List EntS}{k:Nat}(hm:isMid l.length k=false) : midsTo l (k+1)=midsTo l k:=by
 rw[midsTo,if_neg (by rw[hm];decide),List.append_nil]
theorem midsTo_length (l:List EntS) : ∀ k,(midsTo l k).length≤k
 | 0=>Nat.le_refl _
 | k+1=>by
   have:=midsTo_length l k;rw[midsTo,List.length_append];split
   ·split<;>simp<;>omega
   ·simp;omega
theorem Blok.below {w w':World}{g:Nat}{t:TypeId}{cs:Array Value}(h:Blok w g t cs)(hb:Below w.heap.size w w') : Blok w' g t cs:=(hb.block g h.lt).trans h
abbrev EnAt (w:World)(g:Nat)(h:Nat)(v p:Int) : Prop:=Blok w g 63 #[.int .u64 (h:Nat),.int .i64 v,.int .i64 p]
theorem EnAt.put0 {w:World}{g h:Nat}{v p:Int}(H:EnAt w g h v p)(h':Nat) : EnAt (w.setCell ⟨g,0,none⟩ (.int .u64 (h':Nat))) g h' v p:=Blok.put H 0 _
theorem EnAt.put1 {w:World}{g h:Nat}{v p:Int}(H:EnAt w g h v p)(v':Int) : EnAt (w.setCell ⟨g,1,none⟩ (.int .i64 v')) g h v' p:=Blok.put H 1 _
theorem EnAt.put2 {w:World}{g h:Nat}{v p:Int}(H:EnAt w g h v p)(p':Int) : EnAt (w.setCell ⟨g,2,none⟩ (.int .i64 p')) g h v p':=Blok.put H 2 _
theorem EnAt.facts {w:World}{g h:Nat}{v p:Int}(H:EnAt w g h v p) : w.cell? ⟨g,0,none⟩=some (.int .u64 (h:Nat))∧w.cell? ⟨g,1,none⟩=some (.int .i64 v)∧w.cell? ⟨g,2,none⟩=some (.int .i64 p)∧w.frozen? ⟨g,0,none⟩=false∧w.frozen? ⟨g,1,none⟩=false∧w.frozen? ⟨g,2,none⟩=false :=
 ⟨Blok.cell H 0,Blok.cell H 1,Blok.cell H 2,Blok.frozen H 0,Blok.frozen H 1,Blok.frozen H 2⟩
theorem low3 {w w2:World}{g:Nat}(h:Below w.heap.size w w2)(hg:w.heap.size≤g)(a b c:Value) :
  Below w.heap.size w (((w2.setCell ⟨g,0,none⟩ a).setCell ⟨g,1,none⟩ b).setCell ⟨g,2,none⟩ c):=((h.setCell hg _).setCell hg _).setCell hg _
theorem wrap_pos (n:Nat)(h:n<18446744073709551616) : (0≤IntKind.i64.wrap (n:Int)↔n<9223372036854775808)∧(n<9223372036854775808→IntKind.i64.wrap (n:Int)=n):=by
 rw[IntKind.wrap_i64];constructor
 ·omega
 ·intro;omega
theorem may_got {s:ByteArray}(hz:s.size=24) : mayE ⟨getS (s.extract 0 8),IntKind.i64.wrap (enV s:Nat),IntKind.i64.wrap (enP s:Nat)⟩=enOk s∧(enOk s=true→enG s=⟨getS (s.extract 0 8),IntKind.i64.wrap (enV s:Nat),IntKind.i64.wrap (enP s:Nat)⟩):=by
 have h1:=wrap_pos (enV s) (getS_lt _);have h2:=wrap_pos (enP s) (getS_lt _);constructor
 ·unfold mayE enOk;rw[decide_eq_decide];simp only;rw[h1.1,h2.1];exact⟨fun h=>⟨hz,h⟩,fun h=>h.2⟩
 ·intro h;have h3:=of_decide_eq_true h;unfold enG;rw[if_pos h,h1.2 h3.2.1,h2.2 h3.2.2]
theorem eget_short (s:ByteArray)(w:World)(hs:s.size≤maxLen)(hz:s.size≠24) :
  Calls Tryz.prog 213 #[.string s] w fun e w'=>e = .returned (.tuple #[entB ⟨0,0,0⟩,.bool false])∧Below w.heap.size w w':=by
 unfold maxLen at hs;have t:((s.size:Int) != 24)=true:=by simp;omega
 have E0:EnAt (w.alloc (.cells #[.int .u64 ((0:Nat):Int),.int .i64 0,.int .i64 0] 63)) w.heap.size 0 0 0:=Blok.new _ _ _;have hb:=(Below.refl w.heap.size w).alloc (Nat.le_refl _) (.cells #[.int .u64 ((0:Nat):Int),.int .i64 0,.int .i64 0] 63);obtain⟨w1,hw1⟩:∃ w1,w.alloc (.cells #[.int .u64 ((0:Nat):Int),.int .i64 0,.int .i64 0] 63)=w1:=⟨_,rfl⟩
 rw[hw1] at E0 hb;have hw1':w.alloc (.cells #[.int .u64 0,.int .i64 0,.int .i64 0] 63)=w1:=hw1;clear hw1;obtain⟨k0,k1,k2,f0,f1,f2⟩:=E0.facts;clear E0;go_enter Tryz.func213,Tryz.ntmps213;go_wp2;exact bodyPost_ret (v:=.tuple #[entB ⟨0,0,0⟩,.bool false]) (by simp[results,Tryz.results213,go_sem,k0,k1,k2]) rfl ⟨rfl,low3 hb (Nat.le_refl _) _ _ _⟩
set_option maxHeartbeats 1000000 in
theorem eget_long (s:ByteArray)(w:World)(hz:s.size=24) :
  Calls Tryz.prog 213 #[.string s] w fun e w'=>e = .returned (.tuple #[entB (enG s),.bool (enOk s)])∧Below w.heap.size w w':=by
 have G0:=Lib.hid fun W=>get_any (s.extract 0 8) W (by unfold maxLen;rw[ByteArray.size_extract];omega)
 have G1:=Lib.hid fun W=>get_any (s.extract 8 16) W (by unfold maxLen;rw[ByteArray.size_extract];omega)
 have G2:=Lib.hid fun W=>get_any (s.extract 16 24) W (by unfold maxLen;rw[ByteArray.size_extract];omega)
 obtain⟨m1,m2⟩:=may_got hz;have HM:=fun W=>may_any ⟨getS (s.extract 0 8),IntKind.i64.wrap (enV s:Nat),IntKind.i64.wrap (enP s:Nat)⟩ W
 rw[m1] at HM;have HM2:=Lib.hid HM;have hN:=enG_no (s:=s);unfold enV enP at *;clear HM m1;generalize getS (s.extract 0 8)=h at *;generalize getS (s.extract 8 16)=nv at *;generalize getS (s.extract 16 24)=np at *;obtain⟨v,hv⟩:∃ v,IntKind.i64.wrap (nv:Int)=v:=⟨_,rfl⟩
 obtain⟨p,hp⟩:∃ p,IntKind.i64.wrap (np:Int)=p:=⟨_,rfl⟩
 rw[hv,hp] at HM2 m2;have t:((s.size:Int) != 24)=false:=by simp;omega
 have E0:EnAt (w.alloc (.cells #[.int .u64 ((0:Nat):Int),.int .i64 0,.int .i64 0] 63)) w.heap.size 0 0 0:=Blok.new _ _ _;have hb:=(Below.refl w.heap.size w).alloc (Nat.le_refl _) (.cells #[.int .u64 ((0:Nat):Int),.int .i64 0,.int .i64 0] 63);obtain⟨w1,hw1⟩:∃ w1,w.alloc (.cells #[.int .u64 ((0:Nat):Int),.int .i64 0,.int .i64 0] 63)=w1:=⟨_,rfl⟩
 rw[hw1] at E0 hb;have hw1':w.alloc (.cells #[.int .u64 0,.int .i64 0,.int .i64 0] 63)=w1:=hw1;clear hw1;have E1:=Lib.hid (E0.put0 h);obtain⟨k0,k1,k2,f0,f1,f2⟩:=E0.facts;clear E0;cases hok:enOk s
 all_goals
  rw[hok] at HM2
  first | rw[hN hok] | rw[m2 hok]
  clear hN m2 hok;go_enter Tryz.func213,Tryz.ntmps213;go_wp2_with fail;refine(G0.out _).mono ?_;rintro e w' ⟨rfl,rfl⟩;go_wp2_with fail;refine(G1.out _).mono ?_;rintro e w' ⟨rfl,rfl⟩;go_wp2_with fail;refine(G2.out _).mono ?_;rintro e w' ⟨rfl,rfl⟩;have E3:=Lib.hid ((E1.out.put1 v).put2 p);have hb3:=low3 hb (Nat.le_refl _) (.int .u64 (h:Nat)) (.int .i64 v) (.int .i64 p);clear E1;go_wp2_with fail;refine(HM2.out _).mono ?_;rintro e w2 ⟨rfl,hb4⟩;have hb5:=bj hb3 hb4;have E4:EnAt w2 w.heap.size h v p:=Blok.below E3.out hb4;clear k0 k1 k2 f0 f1 f2 hb4 hb3 E3 hb hw1';obtain⟨k0,k1,k2,f0,f1,f2⟩:=E4.facts;go_wp2
  first
  | exact bodyPost_ret (v:=.tuple #[entB ⟨0,0,0⟩,.bool false]) (by simp[results,Tryz.results213,go_sem,k0,k1,k2]) rfl ⟨rfl,low3 hb5 (Nat.le_refl _) _ _ _⟩
  | exact bodyPost_ret (v:=.tuple #[entB ⟨h,v,p⟩,.bool true]) (by simp[results,Tryz.results213,go_sem,k0,k1,k2]) rfl ⟨rfl,low3 hb5 (Nat.le_refl _) _ _ _⟩
theorem eget_any (s:ByteArray)(w:World)(hs:s.size≤maxLen) :
  Calls Tryz.prog 213 #[.string s] w fun e w'=>e = .returned (.tuple #[entB (enG s),.bool (enOk s)])∧Below w.heap.size w w':=by
 by_cases hz:s.size=24
 ·exact eget_long s w hz
 ·have h:=en_size hz;rw[enG_no h,h];exact eget_short s w hs hz
end
section
open Go.RowKit Go.Shelf
theorem ents_isnil (A:Option Addr)(n c:Nat)(w:World) : (binOp .eql 37 (.slice A n c) (.slice none 0 0)).run Tryz.prog w = .ok (.bool A.isNone) w:=by
 have he:=run_equal_slice_nil (P:=Tryz.prog) w 37 63 A n c Tryz.underlying37;simp only[binOp];simp[he]
def EntsOut (w:World)(l:List EntS)(e:Ending)(w':World) : Prop:=∃ A c,e = .returned (.slice A l.length c)∧EntRow w' w.heap.size (.slice A l.length c) l∧Below w.heap.size w w'
set_option maxRecDepth 100000 in
theorem eclone_any (v:Value)(l:List EntS)(w:World)(h:EntsIn w v l)(hl:l.length≤500000) : Calls Tryz.prog 96 #[v] w (EntsOut w l):=by
 obtain⟨A,off,cap,rfl,-,-⟩:=h.form;cases A with
 | none =>
   have hn:l=[]:=by
    rcases h with⟨e,_⟩ | ⟨b,off',cap',e,_⟩
    ·exact e
    ·cases e
   subst hn;have hq:=fun W=>ents_isnil none 0 cap W
   clear h hl;go_enter Tryz.func96,Tryz.ntmps96;go_wp2;go_ret;exact⟨none,0,rfl,EntRow.nil _ _,Below.refl _ _⟩
 | some a =>
   have hb:=(Below.refl w.heap.size w).alloc (Nat.le_refl _) (.cells #[] 63);have hown:EntRow (w.alloc (.cells #[] 63)) w.heap.size (.slice (some ⟨w.heap.size,0,none⟩) 0 0) []:=World.ownsRow_made w #[] 0 (Nat.le_refl _) (Nat.zero_le _) rfl;have h1:=h.below hb (Nat.le_refl _);obtain⟨A',c',w',e1,e2,e3,e4⟩:=ents_append hown h1 (by simp;omega) (by simp) 37;have hT:=hb.trans (grown_below e3 (B:=w.heap.size) (by simp) (fun k hk=>by simp[Value.ownBlock] at hk;omega));have HT:=Lib.hid hT;rw[List.nil_append] at e2;have hz:([]:List EntS).length+l.length=l.length:=by simp
   rw[hz] at e1 e2;have HK:=Lib.hid e2;clear h hl hb hown h1 e2 e3 e4 hT hz;obtain⟨m,hm⟩:∃ m,m=l.length:=⟨_,rfl⟩
   have HM:=Lib.hid hm;rw[← hm] at e1 HK ⊢;clear hm;have HE:=Lib.hid e1;have hq:=fun W=>ents_isnil (some a) m cap W
   clear e1;go_enter Tryz.func96,Tryz.ntmps96;go_wp2_with (first | (at_builtin;refine wpList_append_two rfl _ _ rfl rfl rfl HE.out ?_) | fail);go_ret;exact⟨A',c',by rw[← HM.out];rfl,by rw[← HM.out];exact HK.out,HT.out⟩
theorem ent_cell {w:World}{A:Option Addr}{n c i:Nat}{l:List EntS}{x:EntS}(h:EntsIn w (.slice A n c) l)(hx:l[i]? = some x) : ∃ b off,A=some ⟨b,off,none⟩∧n=l.length∧b<w.heap.size∧w.cell? ⟨b,off+i*3,none⟩=some (.int .u64 (x.h:Nat))∧w.cell? ⟨b,off+i*3+1,none⟩=some (.int .i64 x.v)∧w.cell? ⟨b,off+i*3+2,none⟩=some (.int .i64 x.p):=by
 obtain⟨A',off,cap,e,_,hc⟩:=h.form;obtain⟨rfl,rfl,rfl⟩:=Value.slice.inj e;obtain⟨b,e1,e2⟩:=hc i x hx;exact⟨b,off,e1,rfl,e2⟩
end
section
open Go.RowKit
theorem kcell {W0 W:World}{p:Addr}{v:Value}(h:Below W0.heap.size W0 W)(hp:p.block<W0.heap.size)(hc:W0.cell? p=some v) : W.cell? p=some v:=(h.cell hp).trans hc
theorem put_held {f:Nat}{w1:World}{b h v p n:Nat}(hn:n<18446744073709551616)(hp:∀ W,Calls Tryz.prog f #[.int .u64 (n:Nat),.int .i64 8] W fun e w'=>e = .returned (.string (bs (be 8 n)))∧Below W.heap.size W w')(W:World)
  (hS:Below w1.heap.size w1 W∧W.cell? ⟨b,0,none⟩=some (.int .u64 (h:Nat))∧W.cell? ⟨b,1,none⟩=some (.int .i64 (v:Nat))∧W.cell? ⟨b,2,none⟩=some (.int .i64 (p:Nat))) :
  Calls Tryz.prog f #[.int .u64 (n:Nat),.int .i64 8] W fun e w'=>e = .returned (.string (bs (be 8 n)))∧Below w1.heap.size w1 w':=(hp W).mono fun e w' ⟨he,hb⟩=>⟨he,bj hS.1 hb⟩
theorem put_no (x:EntS)(w:World)(hm:mayE x=false) :
  Calls Tryz.prog 70 #[entB x] w fun e w'=>e = .returned (.string (putE x))∧Below w.heap.size w w':=by
 have HM:=fun W=>may_any x W
 rw[hm] at HM;rw[en_put_no hm];have HM2:=Lib.hid HM;obtain⟨h,v,p⟩:=x;clear HM hm;go_enter Tryz.func70,Tryz.ntmps70;go_wp2_with fail;refine(HM2.out _).mono ?_;rintro e w1 ⟨rfl,hb1⟩;go_wp2;go_ret;exact⟨rfl,((Below.refl _ _).alloc (Nat.le_refl _) _).trans (hb1.mono (by simp))⟩
set_option maxHeartbeats 1600000 in
set_option maxRecDepth 100000 in
theorem put_yes (h v p:Nat)(w:World)(hh:h<18446744073709551616)(hv:v<9223372036854775808)(hp:p<9223372036854775808) :
  Calls Tryz.prog 70 #[entB ⟨h,(v:Nat),(p:Nat)⟩] w fun e w'=>e = .returned (.string (putE ⟨h,(v:Nat),(p:Nat)⟩))∧Below w.heap.size w w':=by
 have hm:mayE ⟨h,(v:Nat),(p:Nat)⟩=true:=decide_eq_true ⟨by show(0:Int)≤(v:Int);omega,by show(0:Int)≤(p:Int);omega⟩;have HM:=fun W=>may_any ⟨h,(v:Nat),(p:Nat)⟩ W
 rw[hm] at HM;have HM2:=Lib.hid HM;have HP1:=Lib.hid fun W=>put_some h 8 W (by omega) (by omega) hh
 have HP2:=Lib.hid fun W=>put_some v 8 W (by omega) (by omega) (by omega)
 have HP3:=Lib.hid fun W=>put_some p 8 W (by omega) (by omega) (by omega)
 have HH:=Lib.hid (And.intro hh (And.intro hv hp));have s1:(bs (be 8 h)).size=8:=by rw[bs_size,be_length]
 have s2:(bs (be 8 v)).size=8:=by rw[bs_size,be_length]
 have s3:(bs (be 8 p)).size=8:=by rw[bs_size,be_length]
 have e:putE ⟨h,(v:Nat),(p:Nat)⟩=bs (be 8 h)++bs (be 8 v)++bs (be 8 p):=by
  unfold putE;rw[if_pos hm,bs_append,bs_append];unfold putL;rw[List.append_assoc];rfl
 have a1:∀ w:World,(Op.stringOp .add (bs (be 8 h)) (bs (be 8 v))).run Tryz.prog w = .ok (.string (bs (be 8 h)++bs (be 8 v))) w:=fun w=>run_string_add_sum (P:=Tryz.prog) (w:=w) _ _ (by omega)
 have s4:(bs (be 8 h)++bs (be 8 v)).size=16:=by rw[ByteArray.size_append,s1,s2]
 have a2:∀ w:World,(Op.stringOp .add (bs (be 8 h)++bs (be 8 v)) (bs (be 8 p))).run Tryz.prog w = .ok (.string (putE ⟨h,(v:Nat),(p:Nat)⟩)) w:=fun w=>by rw[e];exact run_string_add_sum (P:=Tryz.prog) (w:=w) _ _ (by omega)
 generalize putE ⟨h,(v:Nat),(p:Nat)⟩=X at *;clear e HM hm;go_enter Tryz.func70,Tryz.ntmps70;go_wp2_with fail;refine(HM2.out _).mono ?_;rintro e w1 ⟨rfl,hb1⟩;have hz1:=hb1.size;rw[World.size_alloc] at hz1;have k0:w1.cell? ⟨w.heap.size,0,none⟩=some (.int .u64 (h:Nat)):=kcell hb1 (by simp) (World.cell?_alloc_at _ _ _ _ rfl);have k1:w1.cell? ⟨w.heap.size,1,none⟩=some (.int .i64 (v:Nat)):=kcell hb1 (by simp) (World.cell?_alloc_at _ _ _ _ rfl);have k2:w1.cell? ⟨w.heap.size,2,none⟩=some (.int .i64 (p:Nat)):=kcell hb1 (by simp) (World.cell?_alloc_at _ _ _ _ rfl);have hbw:Below w.heap.size w w1:=((Below.refl _ _).alloc (Nat.le_refl _) _).trans (hb1.mono (by simp))
 have HS:Hid (∀ W,Below w1.heap.size w1 W→Below w1.heap.size w1 W∧W.cell? ⟨w.heap.size,0,none⟩=some (.int .u64 (h:Nat))∧W.cell? ⟨w.heap.size,1,none⟩=some (.int .i64 (v:Nat))∧W.cell? ⟨w.heap.size,2,none⟩=some (.int .i64 (p:Nat))) :=
  Lib.hid fun W hW=>⟨hW,kcell hW (show w.heap.size<_ by omega) k0,kcell hW (show w.heap.size<_ by omega) k1,kcell hW (show w.heap.size<_ by omega) k2⟩
 have C1:=Lib.hid (put_held (w1:=w1) (b:=w.heap.size) (h:=h) (v:=v) (p:=p) HH.out.1 HP1.out);have C2:=Lib.hid (put_held (w1:=w1) (b:=w.heap.size) (h:=h) (v:=v) (p:=p) (n:=v) (by have:=HH.out;omega) HP2.out);have C3:=Lib.hid (put_held (w1:=w1) (b:=w.heap.size) (h:=h) (v:=v) (p:=p) (n:=p) (by have:=HH.out;omega) HP3.out);generalize bs (be 8 h)++bs (be 8 v)=X12 at *;generalize bs (be 8 h)=X1 at *;generalize bs (be 8 v)=X2 at *;generalize bs (be 8 p)=X3 at *;have q1:IntKind.u64.wrap ((v:Nat):Int)=(v:Nat):=IntWalk.u64_in _ ⟨by omega,by omega⟩;have q2:IntKind.u64.wrap ((p:Nat):Int)=(p:Nat):=IntWalk.u64_in _ ⟨by omega,by omega⟩;clear hb1 HP1 HP2 HP3 HM2 s1 s2 s3 s4;go_wp2_with fail
 go_region_held3 (fun W=>Below w1.heap.size w1 W∧W.cell? ⟨w.heap.size,0,none⟩=some (.int .u64 (h:Nat))∧W.cell? ⟨w.heap.size,1,none⟩=some (.int .i64 (v:Nat))∧W.cell? ⟨w.heap.size,2,none⟩=some (.int .i64 (p:Nat)))
  (first | assumption | exact HS.out _ (by assumption) | exact HS.out _ (Below.refl _ _).drew | fail) (first
  | (go_at_call 58;((with_reducible refine(C1.out _ (by assumption)).mono ?_);rintro e w' ⟨rfl,hb⟩))
  | (go_at_call 58;((with_reducible refine(C2.out _ (by assumption)).mono ?_);rintro e w' ⟨rfl,hb⟩))
  | (go_at_call 58;((with_reducible refine(C3.out _ (by assumption)).mono ?_);rintro e w' ⟨rfl,hb⟩))
  | fail)
 all_goals
  go_wp2;go_ret;exact⟨rfl,hbw.trans ((And.left (‹Below w1.heap.size w1 _∧_›)).mono hbw.size)⟩
theorem ent_nat {x:EntS}(hx:EntOk x)(hm:mayE x=true) : ∃ v p:Nat,x=⟨x.h,(v:Nat),(p:Nat)⟩∧v<9223372036854775808∧p<9223372036854775808:=by
 have h:=of_decide_eq_true hm;obtain⟨h1,h2,h3,h4,h5⟩:=hx;exact⟨x.v.toNat,x.p.toNat,entS_ext rfl (by show x.v=((x.v.toNat:Nat):Int);omega) (by show x.p=((x.p.toNat:Nat):Int);omega),by omega,by omega⟩
theorem eput_any (x:EntS)(w:World)(hx:EntOk x) :
  Calls Tryz.prog 70 #[entB x] w fun e w'=>e = .returned (.string (putE x))∧Below w.heap.size w w':=by
 cases hm:mayE x with
 | false=>exact put_no x w hm
 | true =>
   obtain⟨v,p,e,hv,hp⟩:=ent_nat hx hm;rw[e];exact put_yes x.h v p w hx.h hv hp
end
end Go.Proofs.YtokbfellcadkpaaGreat
namespace Go.Proofs.YtokbfellcadkpaaGreat
open Go.RowKit Go.Shelf
set_option linter.unusedVariables false
set_option maxRecDepth 100000
theorem step_append_ents {ops:Array Oper}{o:Oper}{a:Act}{w:World}{K:Act→World→Prop}{Q:Exit→Act→World→Prop}{E:Prop}{vs vx:Value}{base:Nat}{l m:List EntS}(hgd:o.guard=none)(s x:Operand)
  (ho:o.op = .call { callee:=.builtin .append,args:=#[s,x],argTypes:=#[37,37] }) (hs:a.eval s=vs) (hx:a.eval x=vx)
  (hown:EntRow w base vs l) (hsrc:EntsIn w vx m) (hl:l.length+m.length≤1000000) (hb:base≤w.heap.size)
  (h:∀ v' w',EntRow w' base v' (l++m)→w.grownBy w' vs.ownBlock→(v'.ownBlock=vs.ownBlock∨v'.ownBlock=some w.heap.size)→K (a.put o.dst v') w') :
  if Region.wanted o (yielded ops a.tmps)=true then Oper.wp Tryz.prog o a w K Q else E:=by
 obtain⟨A,c,w',e1,e2,e3,e4⟩:=ents_append hown hsrc hl hb o.type;exact step_append_run hgd s x _ ho hs hx e1 (h _ w' e2 e3 e4)
theorem EntRow.shape {w:World}{base:Nat}{v:Value}{l:List EntS}(h:EntRow w base v l) : ∃ A c,v = .slice A l.length c∧EntRow w base (.slice A l.length c) l:=by
 obtain⟨A,c,rfl,-,-,-⟩:=own_form h;exact⟨A,c,rfl,h⟩
section
variable {wc W V : World} {vs v' : Value} {base : Nat}
theorem st_alloc (h:Below wc.heap.size wc W)(o:Obj) : Below wc.heap.size wc (W.alloc o):=h.alloc h.size o
theorem st_grown (h:Below wc.heap.size wc W)(hg:W.grownBy V vs.ownBlock)(hf:∀ k,vs.ownBlock=some k→wc.heap.size≤k) : Below wc.heap.size wc V:=h.trans (grown_below hg h.size hf)
theorem far_none : ∀ k,(Value.slice none 0 0).ownBlock=some k→wc.heap.size≤k:=fun k h=>by cases h
theorem far_more (h:Below wc.heap.size wc W)(hf:∀ k,vs.ownBlock=some k→wc.heap.size≤k)(ha:v'.ownBlock=vs.ownBlock∨v'.ownBlock=some W.heap.size) : ∀ k,v'.ownBlock=some k→wc.heap.size≤k:=by
 intro k hk;rcases ha with e | e
 ·exact hf k (e.symm.trans hk)
 ·rw[e] at hk;injection hk with hk;rw[← hk];exact h.size
end
end Go.Proofs.YtokbfellcadkpaaGreat
namespace Go.Proofs.YtokbfellcadkpaaGreat
set_option maxRecDepth 100000
set_option linter.unusedVariables false
section
open Go.RowKit Go.Shelf
def Two (W:World)(b p q:Nat)(x y:EntS) : Prop:=W.cell? ⟨b,p,none⟩=some (.int .u64 (x.h:Nat))∧W.cell? ⟨b,p+1,none⟩=some (.int .i64 x.v)∧W.cell? ⟨b,p+2,none⟩=some (.int .i64 x.p) ∧
 W.cell? ⟨b,q,none⟩=some (.int .u64 (y.h:Nat))∧W.cell? ⟨b,q+1,none⟩=some (.int .i64 y.v)∧W.cell? ⟨b,q+2,none⟩=some (.int .i64 y.p)
set_option maxHeartbeats 1600000 in
set_option maxRecDepth 100000 in
theorem sorted_any (v:Value)(l:List EntS)(w:World)(hl:EntsIn w v l)(hn:l.length≤1000000) :
  Calls Tryz.prog 200 #[v] w fun e w'=>e = .returned (.bool (sortedE l))∧Below w.heap.size w w':=by
 obtain⟨A,off,cap,rfl,-,hcell⟩:=hl.form;have HC:=Lib.hid hcell;have Hyes:=Lib.hid (sortedE_yes (l:=l));have Hno:=Lib.hid (fun(i:Nat) (x y:EntS) h1 h2 h3=>sortedE_no (l:=l) (i:=i) (x:=x) (y:=y) h1 h2 h3);obtain⟨n,hnn⟩:∃ n,n=l.length:=⟨_,rfl⟩
 have HN:=Lib.hid hnn;rw[← hnn] at hn ⊢;clear hl hcell hnn;generalize sortedE l=r at *;go_enter Tryz.func200,Tryz.ntmps200;go_wp2;go_loopw [6] (fun i wr=>∃ k:Nat,k≤n∧i = .int .i64 k∧(∀ (i:Nat) (x y:EntS),i+1<k→l[i]? = some x→l[i+1]? = some y→lessE x y=true)∧Below w.heap.size w wr) (fun i _=>n-(intOf i).toNat)
 case atStart=>exact⟨0,Nat.zero_le _,rfl,fun i x y h=>absurd h (by omega),Below.refl _ _⟩
 case round =>
  obtain⟨k,hk,rfl,hall,hbel⟩:=hrel;have HA:=Lib.hid hall;clear hall;by_cases hlt:k<n
  ·have s1:(k:Int)<(n:Int):=by omega
   by_cases h0:k=0
   ·subst h0;go_wp2
    first
    | (go_roundw
       case rel=>exact⟨1,by omega,by go_num,fun i x y h=>absurd h (by omega),hbel⟩
       case measure=>simp[intOf];omega)
    | (go_quiet (fail)
       go_wp2;refine⟨⟨1,by omega,by go_num,fun i x y h=>absurd h (by omega),below_drewN hbel _⟩,by simp[intOf];omega⟩)
   ·obtain⟨m,hkm⟩:∃ m,k=m+1:=⟨k-1,by omega⟩
    obtain⟨x,hx⟩:∃ x,l[m]? = some x:=⟨_,List.getElem?_eq_getElem (by rw[← HN.out];omega)⟩
    obtain⟨y,hy⟩:∃ y,l[k]? = some y:=⟨_,List.getElem?_eq_getElem (by rw[← HN.out];omega)⟩
    obtain⟨b,rfl,hbk,d0,d1,d2⟩:=HC.out m x hx;obtain⟨b',e',-,g0,g1,g2⟩:=HC.out k y hy;obtain rfl:b=b':=by simpa using e'
    have q1:(k:Int)-1=(m:Int):=by omega
    have q2:decide ((0:Int)<(k:Int))=true:=decide_eq_true (by omega);have q5:decide (0<k)=true:=decide_eq_true (by omega);have q6:(0:Int)<(k:Int):=by omega
    have q7:0<k:=by omega
    have q3:IntKind.i64.wrap ((m:Nat):Int)=(m:Nat):=IntWalk.i64_in _ ⟨by omega,by omega⟩;have q4:(m:Int)<(n:Int):=by omega
    have HXY:=Lib.hid (show l[m]? = some x∧l[m+1]? = some y from⟨hx,by rw[← hkm];exact hy⟩)
    have HS:Hid (∀ W,Below wr.heap.size wr W→Below wr.heap.size wr W∧Two W b (off+m*3) (off+k*3) x y):=Lib.hid fun W hW =>
     ⟨hW,(hW.cell (p:=⟨b,off+m*3,none⟩) (Nat.lt_of_lt_of_le hbk hbel.size)).trans ((hbel.cell (p:=⟨b,off+m*3,none⟩) hbk).trans d0),(hW.cell (p:=⟨b,off+m*3+1,none⟩) (Nat.lt_of_lt_of_le hbk hbel.size)).trans ((hbel.cell (p:=⟨b,off+m*3+1,none⟩) hbk).trans d1),(hW.cell (p:=⟨b,off+m*3+2,none⟩) (Nat.lt_of_lt_of_le hbk hbel.size)).trans ((hbel.cell (p:=⟨b,off+m*3+2,none⟩) hbk).trans d2),
      (hW.cell (p:=⟨b,off+k*3,none⟩) (Nat.lt_of_lt_of_le hbk hbel.size)).trans ((hbel.cell (p:=⟨b,off+k*3,none⟩) hbk).trans g0),(hW.cell (p:=⟨b,off+k*3+1,none⟩) (Nat.lt_of_lt_of_le hbk hbel.size)).trans ((hbel.cell (p:=⟨b,off+k*3+1,none⟩) hbk).trans g1),(hW.cell (p:=⟨b,off+k*3+2,none⟩) (Nat.lt_of_lt_of_le hbk hbel.size)).trans ((hbel.cell (p:=⟨b,off+k*3+2,none⟩) hbk).trans g2)⟩
    have HL:=fun W=>eless_any x y W
    have s0:=HS.out wr (Below.refl _ _);clear hx hy d0 d1 d2 g0 g1 g2 e' hbk h0;have HKM:=Lib.hid hkm;clear hkm;have HK:=Lib.hid hk;cases o:lessE x y
    all_goals
     rw[o] at HL;have HLL:=Lib.hid HL;have HO:=Lib.hid o;clear HL o;obtain⟨xh,xv,xp⟩:=x;obtain⟨yh,yv,yp⟩:=y;unfold Two at HS s0;simp only at HS s0;obtain⟨-,c0,c1,c2,c3,c4,c5⟩:=s0;go_wp2_with fail
     go_region_held3 (fun W=>Below wr.heap.size wr W∧W.cell? ⟨b,off+m*3,none⟩=some (.int .u64 (xh:Nat))∧W.cell? ⟨b,off+m*3+1,none⟩=some (.int .i64 xv)∧W.cell? ⟨b,off+m*3+2,none⟩=some (.int .i64 xp) ∧
      W.cell? ⟨b,off+k*3,none⟩=some (.int .u64 (yh:Nat))∧W.cell? ⟨b,off+k*3+1,none⟩=some (.int .i64 yv)∧W.cell? ⟨b,off+k*3+2,none⟩=some (.int .i64 yp))
      (first | (with_reducible assumption) | ((with_reducible refine HS.out _ ?_);(first | (with_reducible assumption) | (with_reducible exact Below.refl _ _) | (with_reducible exact(Below.refl _ _).drew) | exact(bj (And.left (by with_reducible assumption)) ‹Below _ _ _›));done) | fail)
      (first
      | (go_at_call 137;((with_reducible refine(HLL.out _).mono ?_);rintro e w3 ⟨rfl,hb3⟩;have hB3:Below wr.heap.size wr w3:=bj (And.left (by with_reducible assumption)) hb3))
      | fail)
     all_goals
      go_wp2
      first
      | (go_roundw
         case rel =>
          refine⟨k+1,by omega,by go_num,fun i x y hi hx hy=>?_,bj hbel hB3⟩;rcases Nat.lt_or_ge (i+1) k with c | c
          ·exact HA.out i x y c hx hy
          ·obtain rfl:i=m:=by have:=HKM.out;omega
           rw[HXY.out.1] at hx;rw[HXY.out.2] at hy;rw[← Option.some.inj hx,← Option.some.inj hy];exact HO.out
         case measure=>simp[intOf];omega)
      | (go_ret
         exact⟨by rw[Hno.out m _ _ HXY.out.1 HXY.out.2 HO.out];rfl,bj hbel hB3⟩)
  ·obtain rfl:k=n:=by omega
   have s1:¬ (k:Int)<(k:Int):=by omega
   have hyes:=Hyes.out (fun i x y hx hy=>HA.out i x y (by have:=(List.getElem?_eq_some_iff.1 hy).1;rw[← HN.out] at this;omega) hx hy);subst hyes;go_wp2;go_ret;exact⟨rfl,hbel⟩
theorem entFlat_set : ∀ (l:List EntS) (k:Nat) (x:EntS),k<l.length→entFlat (l.set k x)=(((entFlat l).set (k*3) (.int .u64 (x.h:Nat))).set (k*3+1) (.int .i64 x.v)).set (k*3+2) (.int .i64 x.p)
 | [],k,x,h=>absurd h (Nat.not_lt_zero _)
 | y::l,0,x,_=>rfl
 | y::l,k+1,x,h=>by
   have ih:=entFlat_set l k x (by simpa using h);have e:(k+1)*3=k*3+3:=by omega
   unfold entFlat at *;rw[List.set_cons_succ,List.flatMap_cons,List.flatMap_cons,ih,e];rfl
theorem EntRow.put {w:World}{base g n cap k:Nat}{l:List EntS}(h:EntRow w base (.slice (some ⟨g,0,none⟩) n cap) l)(hn:n=l.length)(hk:k<n)(x:EntS) :
  EntRow (((w.setCell ⟨g,k*3,none⟩ (.int .u64 (x.h:Nat))).setCell ⟨g,k*3+1,none⟩ (.int .i64 x.v)).setCell ⟨g,k*3+2,none⟩ (.int .i64 x.p)) base (.slice (some ⟨g,0,none⟩) n cap) (l.set k x):=by
 subst hn;have h1:=(h.stored (k*3) (.int .u64 (x.h:Nat))).1;have h2:=(h1.stored (k*3+1) (.int .i64 x.v)).1;have h3:=(h2.stored (k*3+2) (.int .i64 x.p)).1;unfold EntRow;rw[entFlat_set l k x hk,List.length_set];exact h3
theorem EntRow.at_ {w:World}{base g n cap k:Nat}{l:List EntS}(h:EntRow w base (.slice (some ⟨g,0,none⟩) n cap) l)(hn:n=l.length)(hk:k<n) :
  (∃ x:EntS,w.cell? ⟨g,k*3,none⟩=some (.int .u64 (x.h:Nat))∧w.cell? ⟨g,k*3+1,none⟩=some (.int .i64 x.v)∧w.cell? ⟨g,k*3+2,none⟩=some (.int .i64 x.p)) ∧
  w.frozen? ⟨g,k*3,none⟩=false∧w.frozen? ⟨g,k*3+1,none⟩=false∧w.frozen? ⟨g,k*3+2,none⟩=false:=by
 subst hn;have hx:=List.getElem?_eq_getElem hk;refine⟨⟨l[k], ?_, ?_, ?_⟩,h.frozenAt _,h.frozenAt _,h.frozenAt _⟩
 ·exact(h.cellAt (k*3) (by omega)).trans (entFlat_at l k _ hx 0 (by omega))
 ·exact(h.cellAt (k*3+1) (by omega)).trans (entFlat_at l k _ hx 1 (by omega))
 ·exact(h.cellAt (k*3+2) (by omega)).trans (entFlat_at l k _ hx 2 (by omega))
theorem EntRow.down {w:World}{base base':Nat}{v:Value}{l:List EntS}(h:EntRow w base v l)(hb:base'≤base) : EntRow w base' v l:=by
 refine⟨h.1, ?_⟩;rcases h.2 with h0 | ⟨g,cap,cur,hv,hg,r⟩
 ·exact Or.inl h0
 ·exact Or.inr ⟨g,cap,cur,hv,Nat.le_trans hb hg,r⟩
theorem put3 {w w2:World}{g i j k:Nat}(h:Below w.heap.size w w2)(hg:w.heap.size≤g)(a b c:Value) :
  Below w.heap.size w (((w2.setCell ⟨g,i,none⟩ a).setCell ⟨g,j,none⟩ b).setCell ⟨g,k,none⟩ c):=((h.setCell hg _).setCell hg _).setCell hg _
def tbMade (s:ByteArray)(n k:Nat) : List EntS:=(List.range n).map fun i=>if i<k then enG (tbPiece s i) else⟨0,0,0⟩
theorem tbMade_length (s:ByteArray)(n k:Nat) : (tbMade s n k).length=n:=by unfold tbMade;rw[List.length_map,List.length_range]
theorem tbMade_full (s:ByteArray)(n:Nat) : tbMade s n n=tbGot s n:=by
 unfold tbMade tbGot;apply List.map_congr_left;intro i hi;rw[if_pos (List.mem_range.1 hi)]
theorem tbMade_at (s:ByteArray)(n k i:Nat) : (tbMade s n k)[i]? = if i<n then some (if i<k then enG (tbPiece s i) else⟨0,0,0⟩) else none:=by
 unfold tbMade;rw[List.getElem?_map];by_cases h:i<n
 ·rw[List.getElem?_range h,if_pos h];rfl
 ·rw[List.getElem?_eq_none (by rw[List.length_range];omega),if_neg h];rfl
theorem tbMade_set (s:ByteArray){n k:Nat}(hk:k<n) : (tbMade s n k).set k (enG (tbPiece s k))=tbMade s n (k+1):=by
 apply List.ext_getElem?;intro i;rw[List.getElem?_set,tbMade_length,tbMade_at,tbMade_at];by_cases h:k=i
 ·subst h;rw[if_pos rfl,if_pos hk,if_pos hk,if_pos (Nat.lt_succ_self _)]
 ·rw[if_neg h];by_cases h2:i<k
  ·rw[if_pos h2,if_pos (show i<k+1 by omega)]
  ·rw[if_neg h2,if_neg (show ¬ i<k+1 by omega)]
theorem tb_zeros (s:ByteArray) : ∀ n,entFlat (tbMade s n 0)=(madeCells #[Value.int .u64 0,.int .i64 0,.int .i64 0] (n*3)).toList:=by
 intro n;apply List.ext_getElem?;intro j;by_cases hj:j<n*3
 ·have hi:j/3<n:=by omega
  have h1:=entFlat_at (tbMade s n 0) (j/3) ⟨0,0,0⟩ (by rw[tbMade_at,if_pos hi,if_neg (Nat.not_lt_zero _)]) (j%3) (by omega);rw[show j/3*3+j%3=j by omega] at h1;rw[h1];unfold madeCells entCells;rw[Array.toList_map,List.getElem?_map,Array.toList_range,List.getElem?_range hj];have h3:j%3<3:=by omega
  show _=some ((#[Value.int .u64 0,.int .i64 0,.int .i64 0]:Array Value)[j%3]!);generalize j%3=r at *
  match r,h3 with
  | 0,_=>rfl
  | 1,_=>rfl
  | 2,_=>rfl
 ·rw[List.getElem?_eq_none (by rw[entFlat_length,tbMade_length];omega),List.getElem?_eq_none (by rw[Array.length_toList,size_madeCells];omega)]
theorem tb_make (s:ByteArray)(n:Nat)(hn:n≤1000000) : ∃ Z:Array Value,(∀ w:World,(Instr.makeSlice 37 (.int .i64 (n:Nat)) (.int .i64 (n:Nat))).run Tryz.prog w = .ok (.slice (some ⟨w.heap.size,0,none⟩) n n) (w.alloc (.cells Z 63))) ∧
  ∀ w:World,EntRow (w.alloc (.cells Z 63)) w.heap.size (.slice (some ⟨w.heap.size,0,none⟩) n n) (tbMade s n 0):=by
 obtain⟨i0,hi,hz0,hz1,hz2⟩:=info_parts info_ent;refine⟨madeCells #[Value.int .u64 0,.int .i64 0,.int .i64 0] (n*3),fun w=>?_,fun w=>?_⟩
 ·have h:=run_makeSlice (P:=Tryz.prog) w 37 63 i0 _ Tryz.underlying37 hi hz0 .i64 .i64 (n:Int) (n:Int) (by omega) (Int.le_refl _) (by rw[hz1];omega) (by rw[hz2];omega) (by omega);rw[hz1,Int.toNat_natCast] at h;exact h
 ·have h:=World.ownsRow_lit (base:=w.heap.size) (e:=63) (size:=3) w (madeCells #[Value.int .u64 0,.int .i64 0,.int .i64 0] (n*3)) n (Nat.le_refl _) (by unfold maxLen;omega) (size_madeCells _ _);unfold EntRow;rw[tbMade_length,tb_zeros];exact h
def TgEnd (w:World)(s:ByteArray)(e:Ending)(w':World) : Prop:=∃ A c,e = .returned (.tuple #[.slice A (tgL s).length c,.int .i64 (tgE s)])∧EntRow w' w.heap.size (.slice A (tgL s).length c) (tgL s)∧Below w.heap.size w w'
theorem tg_none {w w':World}{s:ByteArray}{e:Ending}(h:tgOk s=false)(he:e = .returned (.tuple #[.slice none 0 0,.int .i64 90]))(hb:Below w.heap.size w w') : TgEnd w s e w':=by
 obtain⟨h1,h2⟩:=tg_no h;unfold TgEnd;rw[h1,h2];exact⟨none,0,he,EntRow.nil _ _,hb⟩
set_option maxHeartbeats 4000000 in
set_option maxRecDepth 100000 in
theorem tget_any (s:ByteArray)(w:World)(hs:s.size≤1100000) :
  Calls Tryz.prog 195 #[.string s] w (TgEnd w s):=by
 have hm:s.size≤maxLen:=by unfold maxLen;omega
 have HC:=fun W=>tcount_any s W hm
 have hno:tgOk s=false→Hid (∀ w':World,Below w.heap.size w w'→TgEnd w s (.returned (.tuple #[.slice none 0 0,.int .i64 90])) w'):=fun h=>Lib.hid fun w' hb=>tg_none h rfl hb
 cases hh:tbHas s with
 | false =>
   rw[hh] at HC;have HC2:=Lib.hid HC
   have HN:=hno (by
    cases e:tgOk s with
    | false=>rfl
    | true =>
      have h:=tgOk_iff.1 e;rw[show tbHas s=true from decide_eq_true ⟨h.1,h.2.1⟩] at hh;cases hh)
   generalize tbMany s=m at *;clear HC hno hh hm;go_enter Tryz.func195,Tryz.ntmps195;go_wp2_with fail;refine(HC2.out _).mono ?_;rintro e w1 ⟨rfl,rfl⟩;go_wp2;go_ret2;exact HN.out _ (Below.refl _ _)
 | true =>
 rw[hh] at HC;have hmany:tbMany s=(tbN s:Nat):=by unfold tbMany;rw[hh];rfl
 rw[hmany] at HC;have HC2:=Lib.hid HC;have hhead:=of_decide_eq_true hh;have HSZ:=fun W=>tsize_any (tbN s:Nat) W
 by_cases hsz:(s.size:Int)=tbSz (tbN s:Nat)
 case neg =>
  have HN:=hno (by
   cases e:tgOk s with
   | false=>rfl
   | true =>
     have h:=tgOk_iff.1 e;exact absurd (by rw[(tbSz_nat h.2.2.1).1,← h.2.2.2.1]) hsz)
  have HSZ2:=Lib.hid HSZ;have t1:((s.size:Int) != tbSz (tbN s:Nat))=true:=by rw[bne_iff_ne];exact hsz
  clear HC hno hh hmany hsz hhead HSZ hm;generalize tbSz (tbN s:Nat)=z at *;generalize tbN s=n at *;go_enter Tryz.func195,Tryz.ntmps195;go_wp2_with fail;refine(HC2.out _).mono ?_;rintro e w1 ⟨rfl,rfl⟩;go_wp2_with fail;refine(HSZ2.out _).mono ?_;rintro e w1 ⟨rfl,rfl⟩;go_wp2;go_ret2;exact HN.out _ (Below.refl _ _)
 have hn:tbN s≤89478484∧s.size=12+24*tbN s:=by
  by_cases h:tbN s≤89478484
  ·rw[(tbSz_nat h).1] at hsz;exact⟨h,by omega⟩
  ·rw[(tbSz_no (Or.inr (by omega))).1] at hsz;omega
 have hsz2:tbSz (tbN s:Nat)=(s.size:Int):=hsz.symm;rw[hsz2] at HSZ;have HSZ2:=Lib.hid HSZ;have HO:=fun W=>open_any s W hm
 cases ho:opOk s with
 | false =>
   rw[ho] at HO;have HO2:=Lib.hid HO
   have HN:=hno (by
    cases e:tgOk s with
    | false=>rfl
    | true =>
      have h:=tgOk_iff.1 e;rw[h.2.2.2.2.1] at ho;cases ho)
   generalize opA s=oa at *;clear HC hno hh hmany hsz hhead HSZ hsz2 HO ho hn hm;generalize tbN s=n at *;go_enter Tryz.func195,Tryz.ntmps195;go_wp2_with fail;refine(HC2.out _).mono ?_;rintro e w1 ⟨rfl,rfl⟩;go_wp2_with fail;refine(HSZ2.out _).mono ?_;rintro e w1 ⟨rfl,rfl⟩;go_wp2_with fail;refine(HO2.out _).mono ?_;rintro e w1 ⟨rfl,hb1⟩;go_wp2;go_ret2;exact HN.out _ hb1
 | true =>
 rw[ho] at HO;have HO2:=Lib.hid HO;obtain⟨Z,hZ1,hZ2⟩:=tb_make s (tbN s) (by omega);have HZ2:=Lib.hid hZ2
 have HYes:Hid ((∀ i,i<tbN s→enOk (tbPiece s i)=true)→sortedE (tbGot s (tbN s))=true→∀ (A:Option Addr) c (w':World),EntRow w' w.heap.size (.slice A (tbN s) c) (tbGot s (tbN s))→Below w.heap.size w w'→TgEnd w s (.returned (.tuple #[.slice A (tbN s) c,.int .i64 0])) w'):=Lib.hid fun h1 h2 A c w' hr hb=>by
  obtain⟨e1,e2⟩:=tg_yes (tgOk_iff.2 ⟨hhead.1,hhead.2,hn.1,hn.2,ho,h1,h2⟩);unfold TgEnd;rw[e1,e2,tbGot_length];exact⟨A,c,rfl,hr,hb⟩
 have HNo:Hid ((∃ i,i<tbN s∧enOk (tbPiece s i)=false)∨sortedE (tbGot s (tbN s))=false→∀ w':World,Below w.heap.size w w'→TgEnd w s (.returned (.tuple #[.slice none 0 0,.int .i64 90])) w'):=Lib.hid fun h w' hb=>(hno (by
  cases e:tgOk s with
  | false=>rfl
  | true =>
    have h2:=tgOk_iff.1 e;rcases h with⟨i,hi,h3⟩ | h3
    ·rw[h2.2.2.2.2.2.1 i hi] at h3;cases h3
    ·rw[h2.2.2.2.2.2.2] at h3;cases h3)).out w' hb
 have HMS:=Lib.hid (show ∀ k,k<tbN s→(tbMade s (tbN s) k).set k (enG (tbPiece s k))=tbMade s (tbN s) (k+1) from fun k hk=>tbMade_set s hk);have HMF:=Lib.hid (tbMade_full s (tbN s));have HML:=Lib.hid (show ∀ k,(tbMade s (tbN s) k).length=tbN s from fun k=>tbMade_length s (tbN s) k);have hsn:=hn.2;generalize opA s=oa at *;clear HC hno hh hmany hsz hhead HSZ hsz2 HO ho hn hZ2 hm;generalize tbN s=n at *;have hw:IntKind.i64.wrap (n:Int)=(n:Int):=IntWalk.i64_in _ ⟨by omega,by omega⟩;go_enter Tryz.func195,Tryz.ntmps195;go_wp2_with fail;refine(HC2.out _).mono ?_;rintro e w1 ⟨rfl,rfl⟩;go_wp2_with fail;refine(HSZ2.out _).mono ?_;rintro e w1 ⟨rfl,rfl⟩;go_wp2_with fail;refine(HO2.out _).mono ?_;rintro e w1 ⟨rfl,hb1⟩;have hR:=HZ2.out w1;have HB1:=Lib.hid hb1;have hb2:=(Below.refl w1.heap.size w1).alloc (Nat.le_refl _) (.cells Z 63);clear HZ2 hb1 HC2 HSZ2 HO2;go_wp2;go_loopw [35] (fun i wr=>∃ k:Nat,k≤n∧i = .int .i64 k∧(∀ i,i<k→enOk (tbPiece s i)=true)∧EntRow wr w1.heap.size (.slice (some ⟨w1.heap.size,0,none⟩) n n) (tbMade s n k)∧Below w1.heap.size w1 wr) (fun i _=>n-(intOf i).toNat)
 case atStart=>exact⟨0,Nat.zero_le _,rfl,fun i h=>absurd h (by omega),hR,hb2⟩
 case round =>
  obtain⟨k,hk,rfl,hall,hrow,hbel⟩:=hrel;clear hR hb2 hZ1;have HA:=Lib.hid hall;clear hall;by_cases hlt:k<n
  ·have s1:(k:Int)<(n:Int):=by omega
   obtain⟨a,ha⟩:∃ a,a=8+24*k:=⟨_,rfl⟩
   obtain⟨b,hb⟩:∃ b,b=32+24*k:=⟨_,rfl⟩
   have HA1:Hid (∀ W,Calls Tryz.prog 212 #[.int .i64 (k:Nat)] W fun e w'=>e = .returned (.int .i64 (a:Nat))∧W=w'):=Lib.hid fun W=>by
    have:=tat_any (k:Nat) W;rw[(tbSz_nat (by omega)).2,← ha] at this;exact this
   have HA2:Hid (∀ W,Calls Tryz.prog 212 #[.int .i64 ((k:Int)+1)] W fun e w'=>e = .returned (.int .i64 (b:Nat))∧W=w'):=Lib.hid fun W=>by
    have:=tat_any ((k+1:Nat):Int) W;rw[(tbSz_nat (by omega)).2,show 8+24*(k+1)=b by omega] at this;exact this
   have eP:tbPiece s k=s.extract a b:=by rw[ha,hb];rfl
   have HG:=fun W=>eget_any (s.extract a b) W (by unfold maxLen;rw[ByteArray.size_extract];omega)
   rw[← eP] at HG;have HMK:=Lib.hid (HMS.out k hlt);have x1:(a:Int)≤(b:Int):=by omega
   have x2:(b:Int)≤(s.size:Int):=by omega
   have x3:a≤b:=by omega
   have x4:b≤s.size:=by omega
   have HROW:=Lib.hid hrow;have HBEL:=Lib.hid hbel;have HEQ:Hid (enOk (tbPiece s k)=enOk (tbPiece s k)):=Lib.hid rfl;rw[eP] at HG HMK;rw[eP] at HEQ;have HEP:=Lib.hid eP;clear eP ha hb hrow hbel;cases hok:enOk (s.extract a b) with
   | false =>
     rw[hok] at HG;have HN:=Lib.hid (HNo.out (Or.inl ⟨k,hlt,by rw[HEP.out];exact hok⟩));have HG2:=Lib.hid HG;clear HG hok HEQ HMK;generalize enG (s.extract a b)=x at *;obtain⟨xh,xv,xp⟩:=x;go_wp2_with fail;refine(HA1.out _).mono ?_;rintro e w2 ⟨rfl,rfl⟩;go_wp2_with fail;refine(HA2.out _).mono ?_;rintro e w2 ⟨rfl,rfl⟩;go_wp2_with fail;refine(HG2.out _).mono ?_;rintro e w2 ⟨rfl,hb3⟩;have R2:=HROW.out.below hb3 (Nat.le_refl _);obtain⟨⟨y,q0,q1,q2⟩,f0,f1,f2⟩:=R2.at_ (HML.out k).symm hlt;have R3:=Lib.hid (R2.put (HML.out k).symm hlt ⟨xh,xv,xp⟩);go_wp2;go_ret2;exact HN.out _ (bj HB1.out (put3 (bj HBEL.out hb3) (Nat.le_refl _) _ _ _))
   | true =>
     rw[hok] at HG;have HG2:=Lib.hid HG
     have HALL:=Lib.hid (show ∀ i,i<k+1→enOk (tbPiece s i)=true from fun i hi=>by
      rcases Nat.lt_or_ge i k with c | c
      ·exact HA.out i c
      ·obtain rfl:i=k:=by omega
       rw[HEP.out];exact hok)
     clear HG hok HEQ;generalize enG (s.extract a b)=x at *;obtain⟨xh,xv,xp⟩:=x;go_wp2_with fail;refine(HA1.out _).mono ?_;rintro e w2 ⟨rfl,rfl⟩;go_wp2_with fail;refine(HA2.out _).mono ?_;rintro e w2 ⟨rfl,rfl⟩;go_wp2_with fail;refine(HG2.out _).mono ?_;rintro e w2 ⟨rfl,hb3⟩;have R2:=HROW.out.below hb3 (Nat.le_refl _);obtain⟨⟨y,q0,q1,q2⟩,f0,f1,f2⟩:=R2.at_ (HML.out k).symm hlt;have R3:=R2.put (HML.out k).symm hlt ⟨xh,xv,xp⟩;rw[HMK.out] at R3;have R4:=Lib.hid R3;clear R3 R2;go_wp2;exact⟨⟨k+1,by omega,by go_num,HALL.out,R4.out,put3 (bj HBEL.out hb3) (Nat.le_refl _) _ _ _⟩,by simp[intOf];omega⟩
  ·obtain rfl:k=n:=by omega
   have s1:¬ (k:Int)<(k:Int):=by omega
   rw[HMF.out] at hrow;have HS:=sorted_any _ _ wr (EntRow.in_ hrow) (by rw[tbGot_length];omega);have HROW:=Lib.hid hrow;clear hrow;cases hso:sortedE (tbGot s k) with
   | false =>
     rw[hso] at HS;have HS2:=Lib.hid HS;have HN:=Lib.hid (HNo.out (Or.inr hso));clear HS hso;go_wp2_with fail;refine HS2.out.mono ?_;rintro e w2 ⟨rfl,hb3⟩;go_wp2;go_ret2;exact HN.out _ (bj HB1.out (bj hbel hb3))
   | true =>
     rw[hso] at HS;have HS2:=Lib.hid HS;have HY:=Lib.hid (HYes.out HA.out hso);clear HS hso;go_wp2_with fail;refine HS2.out.mono ?_;rintro e w2 ⟨rfl,hb3⟩;go_wp2;go_ret2;exact HY.out _ _ _ (EntRow.down (EntRow.below HROW.out hb3 (Nat.le_refl _)) HB1.out.size) (bj HB1.out (bj hbel hb3))
end
end Go.Proofs.YtokbfellcadkpaaGreat
namespace Go.Proofs.YtokbfellcadkpaaGreat
open Go.RowKit Go.Shelf
set_option linter.unusedVariables false
set_option maxRecDepth 100000
abbrev mtp (g:Nat) : Value:=.pointer (some ⟨g,0,none⟩)
def TabAt (w:World)(base g:Nat)(F:List Nat)(l:List EntS) : Prop :=
 ∃ v,Blok w g 161 #[mtp g,v]∧EntRow w base v l∧(∀ k,v.ownBlock=some k→k∈F)∧g∈F∧(∀ x∈F,base≤x∧x<w.heap.size)∧RiseE l∧∀ x∈l,EntOk x
def TabEnd (base g:Nat)(F:List Nat)(w:World)(r:Value)(l:List EntS)(e:Ending)(w':World) : Prop :=
 ∃ F',e = .returned r∧TabAt w' base g F' l∧(∀ x∈F',x∈F∨w.heap.size≤x)∧Touch F w w'
section
variable {w w' : World} {base g : Nat} {F G : List Nat} {l : List EntS}
theorem TabAt.touch (h:TabAt w base g F l)(ht:Touch G w w')(hG:∀ x∈F,x ∉ G) : TabAt w' base g F l:=by
 obtain⟨v,h1,h2,h3,h4,h5,h6,h7⟩:=h;exact⟨v,h1.touch ht (hG g h4),own_touch h2 ht (fun b hb=>hG b (h3 b hb)),h3,h4,fun x hx=>⟨(h5 x hx).1,Nat.lt_of_lt_of_le (h5 x hx).2 ht.size⟩,h6,h7⟩
theorem TabAt.below (h:TabAt w base g F l)(hb:Below w.heap.size w w') : TabAt w' base g F l:=h.touch (Touch.of_below hb) (fun _ _=>by simp)
theorem TabAt.drewN (h:TabAt w base g F l)(n:Nat) : TabAt (w.drewN n) base g F l:=h.touch ((Touch.refl [] w).drewN n) (fun _ _=>by simp)
theorem TabAt.shape (h:TabAt w base g F l) : ∃ A c,w.cell? ⟨g,0,none⟩=some (mtp g)∧w.cell? ⟨g,1,none⟩=some (.slice A l.length c)∧w.frozen? ⟨g,1,none⟩=false∧EntRow w base (.slice A l.length c) l∧g<w.heap.size:=by
 obtain⟨v,h1,h2,h3,h4,h5,h6,h7⟩:=h;obtain⟨A,c,rfl,-⟩:=own_form h2;exact⟨A,c,h1.cell 0,h1.cell 1,h1.frozen 1,h2,h1.lt⟩
end
theorem info_tab : (Tryz.prog.info? 161).map (·.size)=some 2:=by kernel_rfl
theorem tsame_in (d:Nat)(p:Addr)(w:World) : (Op.equalIn (d+1) 87 (.pointer (some p)) (.pointer (some p))).run Tryz.prog w = .ok true w:=by
 cases hq:Tryz.prog.info? 161 with
 | none=>have:=info_tab;rw[hq] at this;cases this
 | some i =>
   have hi:i.size=2:=by have:=info_tab;rw[hq] at this;simpa using this
   simp[Op.equalIn,run_underlying Tryz.underlying87,sizeOf,typeInfo,hq,sameAddr]
theorem tsame_ptr (p:Addr)(w:World) : (binOp .neq 87 (.pointer (some p)) (.pointer (some p))).run Tryz.prog w = .ok (.bool false) w:=by
 have he:(Op.equal 87 (.pointer (some p)) (.pointer (some p))).run Tryz.prog w = .ok true w:=tsame_in 9999 p w;simp only[binOp];simp[he]
set_option maxRecDepth 100000 in
theorem tnone_run {w:World}{g:Nat}(h:w.cell? ⟨g,0,none⟩=some (mtp g)) : Calls Tryz.prog 103 #[mtp g] w fun e w'=>e = .returned (.bool false)∧w=w':=by
 have hsp:=tsame_ptr ⟨g,0,none⟩;go_enter Tryz.func103,Tryz.ntmps103;go_wp2;go_ret;exact⟨rfl,rfl⟩
set_option maxRecDepth 100000 in
theorem laid_run {w:World}{g n c:Nat}{A:Option Addr}(h:w.cell? ⟨g,0,none⟩=some (mtp g))(h1:w.cell? ⟨g,1,none⟩=some (.slice A n c)) : Calls Tryz.prog 93 #[mtp g] w fun e w'=>e = .returned (.slice A n c)∧w=w':=by
 have hn:=Lib.hid (tnone_run h);go_enter Tryz.func93,Tryz.ntmps93;go_wp2_with fail;refine hn.out.mono ?_;rintro e w' ⟨rfl,rfl⟩;go_wp2;go_ret;exact⟨rfl,rfl⟩
set_option maxRecDepth 100000 in
theorem tlen_run {w:World}{g base:Nat}{F:List Nat}{l:List EntS}(h:TabAt w base g F l) : Calls Tryz.prog 35 #[mtp g] w fun e w'=>e = .returned (.int .i64 (l.length:Nat))∧w=w':=by
 obtain⟨A,c,c0,c1,-,-,-⟩:=h.shape;have hn:=Lib.hid (laid_run c0 c1);clear h c0 c1;generalize l.length=n at *;go_enter Tryz.func35,Tryz.ntmps35;go_wp2_with fail;refine hn.out.mono ?_;rintro e w' ⟨rfl,rfl⟩;go_wp2;go_ret;exact⟨rfl,rfl⟩
def NewEnd (w:World)(e:Ending)(w':World) : Prop:=e = .returned (mtp w.heap.size)∧TabAt w' w.heap.size w.heap.size [w.heap.size] []∧Below w.heap.size w w'∧w.heap.size<w'.heap.size
set_option maxRecDepth 100000 in
theorem tnew_any (w:World) : Calls Tryz.prog 154 #[] w (NewEnd w):=by
 go_enter Tryz.func154,Tryz.ntmps154;go_wp2;go_ret;have B1:Blok (w.alloc (.cells #[mtp w.heap.size,.slice none 0 0] 161)) w.heap.size 161 #[mtp w.heap.size,.slice none 0 0]:=Blok.new _ _ _;have hb:=(Below.refl w.heap.size w).alloc (Nat.le_refl _) (.cells #[mtp w.heap.size,.slice none 0 0] 161);exact⟨rfl,⟨.slice none 0 0,B1,EntRow.nil _ _,fun k hk=>(by cases hk),by simp,fun x hx=>by obtain rfl:=List.mem_singleton.1 hx;exact⟨Nat.le_refl _,B1.lt⟩,List.Pairwise.nil,fun x hx=>by cases hx⟩,hb,B1.lt⟩
set_option maxRecDepth 100000 in
theorem tclear_run {w:World}{g base:Nat}{F:List Nat}{l:List EntS}(h:TabAt w base g F l) : Calls Tryz.prog 41 #[mtp g] w (TabEnd base g F w (.tuple #[]) []):=by
 have HH:=Lib.hid h;obtain⟨A,c,c0,c1,f1,-,-⟩:=h.shape;have hn:=Lib.hid (tnone_run c0);clear h;go_enter Tryz.func41,Tryz.ntmps41;go_wp2_with fail;refine hn.out.mono ?_;rintro e w' ⟨rfl,rfl⟩;go_wp2;go_end0;obtain⟨v,h1,h2,h3,h4,h5,h6,h7⟩:=HH.out;have B1:=h1.put 1 (.slice none 0 0);exact⟨F,rfl,⟨.slice none 0 0,B1,EntRow.nil _ _,fun k hk=>(by cases hk),h4,fun x hx=>⟨(h5 x hx).1,by simpa[World.setCell] using (h5 x hx).2⟩,List.Pairwise.nil,fun x hx=>by cases hx⟩,fun x hx=>Or.inl hx,(Touch.refl F w).setCell (p:=⟨g,1,none⟩) (Or.inl h4) _⟩
end Go.Proofs.YtokbfellcadkpaaGreat
namespace Go.Proofs.YtokbfellcadkpaaGreat
set_option maxRecDepth 100000
set_option linter.unusedVariables false
section
open Go.RowKit Go.Shelf
theorem aq_enters : Enters Tryz.prog 136:=enters_of Tryz.func136 (by kernel_rfl) rfl
def AskAt (W:World)(B1 B2 g b p:Nat)(v:Value)(x y:EntS) : Prop:=W.cell? ⟨B1,0,none⟩=some (mtp g)∧W.cell? ⟨g,1,none⟩=some v ∧
 W.cell? ⟨B2,0,none⟩=some (.int .u64 (x.h:Nat))∧W.cell? ⟨B2,1,none⟩=some (.int .i64 x.v)∧W.cell? ⟨B2,2,none⟩=some (.int .i64 x.p) ∧
 W.cell? ⟨b,p,none⟩=some (.int .u64 (y.h:Nat))∧W.cell? ⟨b,p+1,none⟩=some (.int .i64 y.v)∧W.cell? ⟨b,p+2,none⟩=some (.int .i64 y.p)
theorem AskAt.below {W W':World}{B1 B2 g b p:Nat}{v:Value}{x y:EntS}(h:AskAt W B1 B2 g b p v x y)(hb:Below W.heap.size W W') : AskAt W' B1 B2 g b p v x y:=by
 have q:∀ {p:Addr} {u:Value},W.cell? p=some u→W'.cell? p=some u:=fun {p u} k=>(hb.cell (p:=p) (World.block_lt_of_cell? W _ k)).trans k
 obtain⟨h1,h2,h3,h4,h5,h6,h7,h8⟩:=h;exact⟨q h1,q h2,q h3,q h4,q h5,q h6,q h7,q h8⟩
set_option maxHeartbeats 1000000 in
set_option maxRecDepth 100000 in
theorem addq_any (B1 B2 g b off n c i:Nat)(x y:EntS)(w:World)(hi:i<n)(hn:n≤1000000)(hA:AskAt w B1 B2 g b (off+i*3) (.slice (some ⟨b,off,none⟩) n c) x y) :
  Calls Tryz.prog 136 #[.int .i64 (i:Nat),mtp B1,mtp B2] w fun e w'=>e = .returned (.bool (!lessE y x))∧Below w.heap.size w w':=by
 have HS:Hid (∀ W,Below w.heap.size w W→Below w.heap.size w W∧AskAt W B1 B2 g b (off+i*3) (.slice (some ⟨b,off,none⟩) n c) x y):=Lib.hid fun W hW=>⟨hW,hA.below hW⟩
 have HL:=fun W=>eless_any y x W
 have s0:=HS.out w (Below.refl _ _);have s1:(i:Int)<(n:Int):=by omega
 have s2:(n:Int)≤1000000:=by omega
 clear hA;generalize lessE y x=r at *;have HLL:=Lib.hid HL;clear HL;obtain⟨xh,xv,xp⟩:=x;obtain⟨yh,yv,yp⟩:=y;unfold AskAt at HS s0;simp only at HS s0;obtain⟨-,c0,c1,c2,c3,c4,c5,c6,c7⟩:=s0;go_enter Tryz.func136,Tryz.ntmps136;go_wp2_with fail
 go_region_held3 (fun W=>Below w.heap.size w W∧W.cell? ⟨B1,0,none⟩=some (mtp g)∧W.cell? ⟨g,1,none⟩=some (.slice (some ⟨b,off,none⟩) n c) ∧
  W.cell? ⟨B2,0,none⟩=some (.int .u64 (xh:Nat))∧W.cell? ⟨B2,1,none⟩=some (.int .i64 xv)∧W.cell? ⟨B2,2,none⟩=some (.int .i64 xp) ∧
  W.cell? ⟨b,off+i*3,none⟩=some (.int .u64 (yh:Nat))∧W.cell? ⟨b,off+i*3+1,none⟩=some (.int .i64 yv)∧W.cell? ⟨b,off+i*3+2,none⟩=some (.int .i64 yp))
  (first | (with_reducible assumption) | ((with_reducible refine HS.out _ ?_);(first | (with_reducible assumption) | (with_reducible exact Below.refl _ _) | (with_reducible exact(Below.refl _ _).drew) | exact(bj (And.left (by with_reducible assumption)) ‹Below _ _ _›));done) | fail)
  (first
  | (go_at_call 137;((with_reducible refine(HLL.out _).mono ?_);rintro e w3 ⟨rfl,hb3⟩;have hB3:Below w.heap.size w w3:=bj (And.left (by with_reducible assumption)) hb3))
  | fail)
 all_goals
  go_wp2;go_ret;exact⟨rfl,hB3⟩
structure Has (w:World)(p:Value)(l:List EntS) : Prop where
 laid:∃ v,EntsIn w v l∧∀ W,Below w.heap.size w W→Calls Tryz.prog 93 #[p] W fun e w'=>e = .returned v∧W=w'
 rise:RiseE l
 ok:∀ x∈l,EntOk x
theorem TabAt.has {w:World}{base g:Nat}{F:List Nat}{l:List EntS}(h:TabAt w base g F l) : Has w (mtp g) l:=by
 obtain⟨A,c,c0,c1,-,hrow,-⟩:=h.shape;obtain⟨v,h1,h2,h3,h4,h5,h6,h7⟩:=h;have q:∀ {p:Addr} {u:Value} {W:World},w.cell? p=some u→Below w.heap.size w W→W.cell? p=some u:=fun {p u W} k hW=>(hW.cell (p:=p) (World.block_lt_of_cell? w _ k)).trans k
 exact⟨⟨_,EntRow.in_ hrow,fun W hW=>laid_run (q c0 hW) (q c1 hW)⟩,h6,h7⟩
set_option maxRecDepth 100000 in
theorem tdump_run {w:World}{p:Value}{l:List EntS}(h:Has w p l)(hn:l.length≤500000) :
  Calls Tryz.prog 37 #[p] w (EntsOut w l):=by
 obtain⟨⟨v,hv,hl⟩,hr,hok⟩:=h;have H1:=Lib.hid (hl w (Below.refl _ _));have H2:=Lib.hid (eclone_any v l w hv hn);obtain⟨n,hnn⟩:∃ n,n=l.length:=⟨_,rfl⟩
 have HN:=Lib.hid hnn;unfold EntsOut at H2;rw[← hnn] at H2;clear hl hv hr hok hn hnn;go_enter Tryz.func37,Tryz.ntmps37;go_wp2_with fail;refine H1.out.mono ?_;rintro e w' ⟨rfl,rfl⟩;go_wp2_with fail;refine H2.out.mono ?_;rintro e w' ⟨A,c,rfl,hrow,hb⟩;have HR:=Lib.hid hrow;clear hrow;go_wp2;go_ret;exact⟨A,c,by rw[← HN.out];rfl,by rw[← HN.out];exact HR.out,hb⟩
def entL (seed:Nat)(s:ByteArray)(f:Int)(n:Nat)(q:Int) : List EntS:=(List.range n).map fun i=>⟨hashH seed s.data.toList,f+(i:Nat),q⟩
end
end Go.Proofs.YtokbfellcadkpaaGreat

/- ZnEntMath, ZnEntSorted, ZnMtMath -/
import Derived.Test.YtokbfellcadkpaaGreatPn02
import Derived.Test.YtokbfellcadkpaaGreatPn06
import Derived.Lib.IndexBytes
namespace Go.Proofs.YtokbfellcadkpaaGreat
set_option maxRecDepth 100000
set_option linter.unusedVariables false
section
open Go.RowKit
def lessE (x y:EntS) : Bool:=decide (x.h<y.h∨(x.h=y.h∧(x.v<y.v∨(x.v=y.v∧x.p<y.p))))
theorem lessE_iff {x y:EntS} : lessE x y=true↔(x.h<y.h∨(x.h=y.h∧(x.v<y.v∨(x.v=y.v∧x.p<y.p)))):=by unfold lessE;exact decide_eq_true_iff
theorem entS_ext {x y:EntS}(h1:x.h=y.h)(h2:x.v=y.v)(h3:x.p=y.p) : x=y:=by cases x;cases y;simp_all
instance entS_dec : DecidableEq EntS := fun x y => decidable_of_iff (x.h = y.h ∧ x.v = y.v ∧ x.p = y.p) ⟨fun h => entS_ext h.1 h.2.1 h.2.2, fun h => by subst h; exact ⟨rfl, rfl, rfl⟩⟩
theorem lessE_irrefl (x:EntS) : lessE x x=false:=by unfold lessE;exact decide_eq_false (by omega)
theorem lessE_trans {x y z:EntS}(h:lessE x y=true)(k:lessE y z=true) : lessE x z=true:=by rw[lessE_iff] at *;omega
theorem lessE_other {x y:EntS}(h:lessE x y=false)(hne:x≠y) : lessE y x=true:=by
 rcases Decidable.em (lessE y x=true) with c | c
 ·exact c
 ·exfalso;apply hne;have h1:¬ lessE x y=true:=by rw[h];decide
  rw[lessE_iff] at h1 c;exact entS_ext (by omega) (by omega) (by omega)
def mayE (x:EntS) : Bool:=decide (0≤x.v∧0≤x.p)
def putL (x:EntS) : List UInt8:=be 8 x.h++(be 8 x.v.toNat++be 8 x.p.toNat)
def putE (x:EntS) : ByteArray:=if mayE x=true then bs (putL x) else ByteArray.empty
def enV (s:ByteArray) : Nat:=getS (s.extract 8 16)
def enP (s:ByteArray) : Nat:=getS (s.extract 16 24)
def enOk (s:ByteArray) : Bool:=decide (s.size=24∧enV s<9223372036854775808∧enP s<9223372036854775808)
def enG (s:ByteArray) : EntS:=if enOk s=true then⟨getS (s.extract 0 8),(enV s:Nat),(enP s:Nat)⟩ else⟨0,0,0⟩
theorem putL_length (x:EntS) : (putL x).length=24:=by unfold putL;rw[List.length_append,List.length_append,be_length,be_length,be_length]
theorem putE_size {x:EntS}(h:mayE x=true) : (putE x).size=24:=by unfold putE;rw[if_pos h,bs_size,putL_length]
theorem en_bs_list (l:List UInt8) : (bs l).data.toList=l:=by simp[bs]
theorem ext_list (s:ByteArray)(i j:Nat) : (s.extract i j).data.toList=(s.data.toList.drop i).take (j-i):=by
 rw[ByteArray.data_extract,Array.toList_extract,List.extract_eq_take_drop]
theorem pow_8 : (256:Nat) ^ 8=18446744073709551616:=by decide
theorem getS_of {s:ByteArray}{l:List UInt8}(h:s.data.toList=l)(hl:l.length=8) : getS s=un l:=by unfold getS;rw[h,List.take_of_length_le (by omega)]
theorem en_put {x:EntS}(hx:EntOk x)(h:mayE x=true) : enOk (putE x)=true∧enG (putE x)=x:=by
 have hm:=of_decide_eq_true h;obtain⟨h1,h2,h3,h4,h5⟩:=hx;have hs:=putE_size h;have e:(putE x).data.toList=putL x:=by unfold putE;rw[if_pos h,en_bs_list]
 have l1:=be_length 8 x.h;have l2:=be_length 8 x.v.toNat;have l3:=be_length 8 x.p.toNat
 have e0:getS ((putE x).extract 0 8)=x.h:=by
  rw[getS_of (l:=be 8 x.h) _ l1,un_be,pow_8,Nat.mod_eq_of_lt h1];rw[ext_list,e,List.drop_zero];unfold putL;rw[List.take_left' l1]
 have e1:enV (putE x)=x.v.toNat:=by
  unfold enV;rw[getS_of (l:=be 8 x.v.toNat) _ l2,un_be,pow_8,Nat.mod_eq_of_lt (by omega)];rw[ext_list,e];unfold putL;rw[List.drop_left' l1,List.take_left' l2]
 have e2:enP (putE x)=x.p.toNat:=by
  unfold enP;rw[getS_of (l:=be 8 x.p.toNat) _ l3,un_be,pow_8,Nat.mod_eq_of_lt (by omega)];rw[ext_list,e];unfold putL;rw[show(16:Nat)=8+8 from rfl,← List.drop_drop,List.drop_left' l1,List.drop_left' l2,List.take_of_length_le (by omega)]
 have hok:enOk (putE x)=true:=by
  unfold enOk;rw[e1,e2];exact decide_eq_true ⟨hs,by omega,by omega⟩
 refine⟨hok, ?_⟩;unfold enG;rw[if_pos hok,e0,e1,e2];exact entS_ext rfl (by show((x.v.toNat:Nat):Int)=x.v;omega) (by show((x.p.toNat:Nat):Int)=x.p;omega)
theorem en_empty : enOk ByteArray.empty=false:=by unfold enOk;exact decide_eq_false (fun h=>by have:(0:Nat)=24:=h.1;omega)
theorem en_put_no {x:EntS}(h:mayE x=false) : putE x=ByteArray.empty:=by unfold putE;rw[h];rfl
theorem enOk_put {x:EntS}(hx:EntOk x) : enOk (putE x)=mayE x:=by
 cases h:mayE x with
 | true=>exact(en_put hx h).1
 | false=>rw[en_put_no h,en_empty]
theorem en_form {s:ByteArray}(h:enOk s=true) : mayE (enG s)=true∧putE (enG s)=s:=by
 have hok:=of_decide_eq_true h;obtain⟨hz,hv,hp⟩:=hok
 have hm:mayE (enG s)=true:=by
  unfold enG mayE;rw[if_pos h];exact decide_eq_true ⟨by show(0:Int)≤((enV s:Nat):Int);omega,by show(0:Int)≤((enP s:Nat):Int);omega⟩
 refine⟨hm, ?_⟩;have hl:s.data.toList.length=24:=by rw[Array.length_toList];exact hz
 have a0:((s.data.toList.drop 0).take 8).length=8:=by rw[List.length_take,List.length_drop];omega
 have a1:((s.data.toList.drop 8).take 8).length=8:=by rw[List.length_take,List.length_drop];omega
 have a2:((s.data.toList.drop 16).take 8).length=8:=by rw[List.length_take,List.length_drop];omega
 have b0:=be_un ((s.data.toList.drop 0).take 8);have b1:=be_un ((s.data.toList.drop 8).take 8);have b2:=be_un ((s.data.toList.drop 16).take 8);rw[a0] at b0;rw[a1] at b1;rw[a2] at b2;have g0:getS (s.extract 0 8)=un ((s.data.toList.drop 0).take 8):=getS_of (ext_list s 0 8) a0;have g1:enV s=un ((s.data.toList.drop 8).take 8):=getS_of (ext_list s 8 16) a1;have g2:enP s=un ((s.data.toList.drop 16).take 8):=getS_of (ext_list s 16 24) a2
 have e:putL (enG s)=s.data.toList:=by
  unfold enG putL;rw[if_pos h];show be 8 (getS (s.extract 0 8))++(be 8 ((enV s:Nat):Int).toNat++be 8 ((enP s:Nat):Int).toNat)=_;rw[Int.toNat_natCast,Int.toNat_natCast,g0,g1,g2,b0,b1,b2,List.drop_zero];rw[show(16:Nat)=8+8 from rfl,← List.drop_drop];have q:(((s.data.toList.drop 8).drop 8).take 8)=(s.data.toList.drop 8).drop 8:=List.take_of_length_le (by rw[List.length_drop,List.length_drop];omega);rw[q,List.take_append_drop,List.take_append_drop]
 unfold putE;rw[if_pos hm,e,bs_data]
theorem enG_no {s:ByteArray}(h:enOk s=false) : enG s=⟨0,0,0⟩:=by unfold enG;rw[h];rfl
theorem en_size {s:ByteArray}(h:s.size≠24) : enOk s=false:=by unfold enOk;exact decide_eq_false (fun x=>h x.1)
def sortedE : List EntS→Bool
 | []=>true
 | [_]=>true
 | x::y::l=>lessE x y&&sortedE (y::l)
theorem sortedE_yes : ∀ {l:List EntS},(∀ (i:Nat) (x y:EntS),l[i]? = some x→l[i+1]? = some y→lessE x y=true)→sortedE l=true
 | [],_=>rfl
 | [_],_=>rfl
 | x::y::l,h=>by
   unfold sortedE;rw[h 0 x y rfl rfl,Bool.true_and];exact sortedE_yes fun i a b ha hb=>h (i+1) a b (by simpa using ha) (by simpa using hb)
theorem sortedE_at : ∀ {l:List EntS},sortedE l=true→∀ (i:Nat) (x y:EntS),l[i]? = some x→l[i+1]? = some y→lessE x y=true
 | [],_=>fun i x y hx _=>by simp at hx
 | [_],_=>fun i x y _ hy=>by simp at hy
 | a::b::l,h=>by
   unfold sortedE at h;rw[Bool.and_eq_true] at h;intro i x y hx hy;cases i with
   | zero =>
     obtain rfl:a=x:=by simpa using hx
     obtain rfl:b=y:=by simpa using hy
     exact h.1
   | succ i=>exact sortedE_at h.2 i x y (by simpa using hx) (by simpa using hy)
theorem sortedE_no {l:List EntS}{i:Nat}{x y:EntS}(hx:l[i]? = some x)(hy:l[i+1]? = some y)(h:lessE x y=false) : sortedE l=false:=by
 cases hs:sortedE l with
 | false=>rfl
 | true=>rw[sortedE_at hs i x y hx hy] at h;cases h
def RiseE (l:List EntS) : Prop:=l.Pairwise (fun x y=>lessE x y=true)
theorem RiseE.sorted {l:List EntS}(h:RiseE l) : sortedE l=true:=sortedE_yes fun i x y hx hy=>by
 have hi:=(List.getElem?_eq_some_iff.1 hy).1;have:=List.pairwise_iff_getElem.1 h i (i+1) (by omega) hi (by omega);rw[List.getElem?_eq_getElem (by omega)] at hx;rw[List.getElem?_eq_getElem hi] at hy;rw[← Option.some.inj hx,← Option.some.inj hy];exact this
theorem sorted_rise : ∀ {l:List EntS},sortedE l=true→RiseE l
 | [],_=>List.Pairwise.nil
 | [x],_=>List.pairwise_singleton _ _
 | x::y::l,h=>by
   unfold sortedE at h;rw[Bool.and_eq_true] at h;have hr:=sorted_rise h.2;refine List.Pairwise.cons (fun z hz=>?_) hr;rcases List.mem_cons.1 hz with rfl | hz
   ·exact h.1
   ·exact lessE_trans h.1 ((List.pairwise_cons.1 hr).1 z hz)
def posE (l:List EntS)(x:EntS) : Nat:=l.findIdx (fun y=>!lessE y x)
def layEn (l:List EntS)(x:EntS) : List EntS:=if l[posE l x]? = some x then l else l.take (posE l x)++[x]++l.drop (posE l x)
theorem posE_le (l:List EntS)(x:EntS) : posE l x≤l.length:=List.findIdx_le_length
theorem pos_take (l:List EntS)(x:EntS) : ∀ y∈l.take (posE l x),lessE y x=true:=by
 intro y hy;obtain⟨j,hj⟩:=List.getElem?_of_mem hy;have hjl:=(List.getElem?_eq_some_iff.1 hj).1;rw[List.length_take] at hjl;rw[List.getElem?_take,if_pos (by omega),List.getElem?_eq_getElem (by omega)] at hj;have e:=Option.some.inj hj;have:=List.not_of_lt_findIdx (p:=fun y=>!lessE y x) (xs:=l) (i:=j) (by unfold posE at hjl;omega);rw[e] at this;simpa using this
theorem pos_drop {l:List EntS}{x:EntS}(hr:RiseE l)(hne:l[posE l x]?≠some x) : ∀ y∈l.drop (posE l x),lessE x y=true:=by
 rcases Nat.lt_or_ge (posE l x) l.length with c | c
 ·have e:l.drop (posE l x)=l[posE l x]::l.drop (posE l x+1):=List.drop_eq_getElem_cons c
  have h0:lessE l[posE l x] x=false:=by
   have h:(!lessE l[posE l x] x)=true:=List.findIdx_getElem (p:=fun y=>!lessE y x) (xs:=l) (w:=c);rw[Bool.not_eq_true'] at h;exact h
  have h1:l[posE l x]≠x:=fun h=>hne (by rw[List.getElem?_eq_getElem c,h])
  have h2:=lessE_other h0 h1;have hd:RiseE (l.drop (posE l x)):=List.Pairwise.drop hr;rw[e] at hd ⊢;intro y hy;rcases List.mem_cons.1 hy with rfl | hy
  ·exact h2
  ·exact lessE_trans h2 ((List.pairwise_cons.1 hd).1 y hy)
 ·rw[List.drop_eq_nil_of_le c];intro y hy;cases hy
theorem rise_layE {l:List EntS}(hr:RiseE l)(x:EntS) : RiseE (layEn l x):=by
 unfold layEn;split
 ·exact hr
 ·rename_i hne;have h1:=pos_take l x;have h2:=pos_drop hr hne;refine List.pairwise_append.2 ⟨List.pairwise_append.2 ⟨List.Pairwise.take hr,List.pairwise_singleton _ _,fun a ha b hb=>?_⟩,List.Pairwise.drop hr,fun a ha b hb=>?_⟩
  ·rw[List.mem_singleton.1 hb];exact h1 a ha
  ·rcases List.mem_append.1 ha with ha | ha
   ·exact lessE_trans (h1 a ha) (h2 b hb)
   ·rw[List.mem_singleton.1 ha];exact h2 b hb
theorem mem_layE {l:List EntS}{x y:EntS}(h:y∈layEn l x) : y∈l∨y=x:=by
 unfold layEn at h;split at h
 ·exact Or.inl h
 ·rcases List.mem_append.1 h with h | h
  ·rcases List.mem_append.1 h with h | h
   ·exact Or.inl (List.mem_of_mem_take h)
   ·exact Or.inr (List.mem_singleton.1 h)
  ·exact Or.inl (List.mem_of_mem_drop h)
theorem layE_length (l:List EntS)(x:EntS) : (layEn l x).length≤l.length+1:=by
 unfold layEn;split
 ·omega
 ·rw[List.length_append,List.length_append,List.length_take,List.length_drop,List.length_singleton];have:=posE_le l x;omega
theorem ent_take (l:List EntS)(k:Nat)(x:EntS)(h:l[k]? = some x) : l.take (k+1)=l.take k++[x]:=by
 rw[List.take_add_one,h];rfl
theorem lay_keeps {l:List EntS}{x y:EntS}(h:y∈l) : y∈layEn l x:=by
 unfold layEn;split
 ·exact h
 ·rw[← List.take_append_drop (posE l x) l] at h;rcases List.mem_append.1 h with h | h
  ·exact List.mem_append_left _ (List.mem_append_left _ h)
  ·exact List.mem_append_right _ h
theorem lay_has (l:List EntS)(x:EntS) : x∈layEn l x:=by
 unfold layEn;split
 ·rename_i h;exact List.mem_of_getElem? h
 ·exact List.mem_append_left _ (List.mem_append_right _ (List.mem_singleton.2 rfl))
theorem mem_lay {l:List EntS}{x y:EntS} : y∈layEn l x↔y∈l∨y=x :=
 ⟨mem_layE,fun h=>by
  rcases h with h | rfl
  ·exact lay_keeps h
  ·exact lay_has l y⟩
theorem pos_mem {l:List EntS}(hr:RiseE l){x:EntS}(h:x∈l) : l[posE l x]? = some x:=by
 rcases Decidable.em (l[posE l x]? = some x) with c | c
 ·exact c
 ·rw[← List.take_append_drop (posE l x) l] at h;rcases List.mem_append.1 h with h | h
  ·have:=pos_take l x x h;rw[lessE_irrefl] at this;cases this
  ·have:=pos_drop hr c x h;rw[lessE_irrefl] at this;cases this
theorem pos_mem_iff {l:List EntS}(hr:RiseE l){x:EntS} : l[posE l x]? = some x↔x∈l:=⟨List.mem_of_getElem?,pos_mem hr⟩
theorem lay_old {l:List EntS}(hr:RiseE l){x:EntS}(h:x∈l) : layEn l x=l:=by unfold layEn;rw[if_pos (pos_mem hr h)]
theorem mlay_new {l:List EntS}{x:EntS}(h:x ∉ l) : layEn l x=l.take (posE l x)++([x]++l.drop (posE l x)):=by
 unfold layEn;rw[if_neg (fun k=>h (List.mem_of_getElem? k)),List.append_assoc]
theorem pos_ask {l:List EntS}(hr:RiseE l){x y:EntS}{i:Nat}(h:l[i]? = some y) : (!lessE y x)=decide (posE l x≤i):=by
 by_cases c:posE l x≤i
 ·rw[decide_eq_true c];cases hl:lessE y x with
  | false=>rfl
  | true =>
    exfalso;have hi:=(List.getElem?_eq_some_iff.1 h).1;have hp:posE l x<l.length:=by omega
    have h0:(!lessE l[posE l x] x)=true:=List.findIdx_getElem (p:=fun y=>!lessE y x) (xs:=l) (w:=hp);rw[Bool.not_eq_true'] at h0;rcases Nat.lt_or_ge (posE l x) i with k | k
    ·have:=List.pairwise_iff_getElem.1 hr (posE l x) i hp hi k;rw[List.getElem?_eq_getElem hi] at h;rw[Option.some.inj h] at this;rw[lessE_trans this hl] at h0;cases h0
    ·have e:i=posE l x:=by omega
     subst e;rw[List.getElem?_eq_getElem hi] at h;rw[Option.some.inj h,hl] at h0;cases h0
 ·rw[decide_eq_false c];have hm:y∈l.take (posE l x):=List.mem_of_getElem? (i:=i) (by rw[List.getElem?_take,if_pos (by omega)];exact h);rw[pos_take l x y hm];rfl
end
end Go.Proofs.YtokbfellcadkpaaGreat

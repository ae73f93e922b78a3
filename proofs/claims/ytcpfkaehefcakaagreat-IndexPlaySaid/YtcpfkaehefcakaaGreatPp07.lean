/- ZpEntMath, ZpEntSorted, ZpMtMath, ZpMgMath -/
import Derived.Test.YtcpfkaehefcakaaGreatPp01
import Derived.Test.YtcpfkaehefcakaaGreatPp05
import Derived.Lib.IndexBytes
namespace Go.Proofs.YtcpfkaehefcakaaGreat
set_option maxRecDepth 100000
set_option linter.unusedVariables false
section
open Go.RowKit
def lessE (x y:EntS) : Bool:=decide (x.h<y.h∨(x.h=y.h∧(x.v<y.v∨(x.v=y.v∧x.p<y.p))))
theorem lessE_iff {x y:EntS} : lessE x y=true↔(x.h<y.h∨(x.h=y.h∧(x.v<y.v∨(x.v=y.v∧x.p<y.p)))):=by unfold lessE;exact decide_eq_true_iff
theorem entS_ext {x y:EntS}(h1:x.h=y.h)(h2:x.v=y.v)(h3:x.p=y.p) : x=y:=by cases x;cases y;simp_all
instance entS_dec : DecidableEq EntS := fun x y => decidable_of_iff (x.h = y.h ∧ x.v = y.v ∧ x.p = y.p) ⟨fun h => entS_ext h.1 h.2.1 h.2.2, fun h => by subst h; exact ⟨rfl, rfl, rfl⟩⟩
theorem lessE_irrefl (x:EntS) : lessE x x=false:=by unfold lessE;exact decide_eq_false (by omega)
theorem lessE_trans {x y z:EntS}(h:lessE x y=true)(k:lessE y z=true) : lessE x z=true:=by rw[lessE_iff] at *;omega
theorem lessE_other {x y:EntS}(h:lessE x y=false)(hne:x≠y) : lessE y x=true:=by
 rcases Decidable.em (lessE y x=true) with c | c
 ·exact c
 ·exfalso
  apply hne
  have h1:¬ lessE x y=true:=by rw[h];decide
  rw[lessE_iff] at h1 c
  exact entS_ext (by omega) (by omega) (by omega)
theorem lessE_asymm {x y:EntS}(h:lessE x y=true) : lessE y x=false:=by
 cases k:lessE y x with
 | false=>rfl
 | true=>have:=lessE_trans h k;rw[lessE_irrefl] at this;cases this
def mayE (x:EntS) : Bool:=decide (0≤x.v∧0≤x.p)
def putL (x:EntS) : List UInt8:=be 8 x.h++(be 8 x.v.toNat++be 8 x.p.toNat)
def putE (x:EntS) : ByteArray:=if mayE x=true then bs (putL x) else ByteArray.empty
def enV (s:ByteArray) : Nat:=getS (s.extract 8 16)
def enP (s:ByteArray) : Nat:=getS (s.extract 16 24)
def enOk (s:ByteArray) : Bool:=decide (s.size=24∧enV s<9223372036854775808∧enP s<9223372036854775808)
def enG (s:ByteArray) : EntS:=if enOk s=true then⟨getS (s.extract 0 8),(enV s:Nat),(enP s:Nat)⟩ else⟨0,0,0⟩
theorem putL_length (x:EntS) : (putL x).length=24:=by unfold putL;rw[List.length_append,List.length_append,be_length,be_length,be_length]
theorem putE_size {x:EntS}(h:mayE x=true) : (putE x).size=24:=by unfold putE;rw[if_pos h,bs_size,putL_length]
theorem en_bs_list (l:List UInt8) : (bs l).data.toList=l:=by simp[bs]
theorem ext_list (s:ByteArray)(i j:Nat) : (s.extract i j).data.toList=(s.data.toList.drop i).take (j-i):=by
 rw[ByteArray.data_extract,Array.toList_extract,List.extract_eq_take_drop]
theorem pow_8 : (256:Nat) ^ 8=18446744073709551616:=by decide
theorem getS_of {s:ByteArray}{l:List UInt8}(h:s.data.toList=l)(hl:l.length=8) : getS s=un l:=by unfold getS;rw[h,List.take_of_length_le (by omega)]
theorem en_put {x:EntS}(hx:EntOk x)(h:mayE x=true) : enOk (putE x)=true∧enG (putE x)=x:=by
 have hm:=of_decide_eq_true h
 obtain⟨h1,h2,h3,h4,h5⟩:=hx
 have hs:=putE_size h
 have e:(putE x).data.toList=putL x:=by unfold putE;rw[if_pos h,en_bs_list]
 have l1:=be_length 8 x.h
 have l2:=be_length 8 x.v.toNat
 have l3:=be_length 8 x.p.toNat
 have e0:getS ((putE x).extract 0 8)=x.h:=by
  rw[getS_of (l:=be 8 x.h) _ l1,un_be,pow_8,Nat.mod_eq_of_lt h1]
  rw[ext_list,e,List.drop_zero]
  unfold putL
  rw[List.take_left' l1]
 have e1:enV (putE x)=x.v.toNat:=by
  unfold enV
  rw[getS_of (l:=be 8 x.v.toNat) _ l2,un_be,pow_8,Nat.mod_eq_of_lt (by omega)]
  rw[ext_list,e]
  unfold putL
  rw[List.drop_left' l1,List.take_left' l2]
 have e2:enP (putE x)=x.p.toNat:=by
  unfold enP
  rw[getS_of (l:=be 8 x.p.toNat) _ l3,un_be,pow_8,Nat.mod_eq_of_lt (by omega)]
  rw[ext_list,e]
  unfold putL
  rw[show(16:Nat)=8+8 from rfl,← List.drop_drop,List.drop_left' l1,List.drop_left' l2,List.take_of_length_le (by omega)]
 have hok:enOk (putE x)=true:=by
  unfold enOk
  rw[e1,e2]
  exact decide_eq_true ⟨hs,by omega,by omega⟩
 refine⟨hok, ?_⟩
 unfold enG
 rw[if_pos hok,e0,e1,e2]
 exact entS_ext rfl (by show((x.v.toNat:Nat):Int)=x.v;omega) (by show((x.p.toNat:Nat):Int)=x.p;omega)
theorem en_empty : enOk ByteArray.empty=false:=by unfold enOk;exact decide_eq_false (fun h=>by have:(0:Nat)=24:=h.1;omega)
theorem en_put_no {x:EntS}(h:mayE x=false) : putE x=ByteArray.empty:=by unfold putE;rw[h];rfl
theorem enOk_put {x:EntS}(hx:EntOk x) : enOk (putE x)=mayE x:=by
 cases h:mayE x with
 | true=>exact(en_put hx h).1
 | false=>rw[en_put_no h,en_empty]
theorem en_form {s:ByteArray}(h:enOk s=true) : mayE (enG s)=true∧putE (enG s)=s:=by
 have hok:=of_decide_eq_true h
 obtain⟨hz,hv,hp⟩:=hok
 have hm:mayE (enG s)=true:=by
  unfold enG mayE
  rw[if_pos h]
  exact decide_eq_true ⟨by show(0:Int)≤((enV s:Nat):Int);omega,by show(0:Int)≤((enP s:Nat):Int);omega⟩
 refine⟨hm, ?_⟩
 have hl:s.data.toList.length=24:=by rw[Array.length_toList];exact hz
 have a0:((s.data.toList.drop 0).take 8).length=8:=by rw[List.length_take,List.length_drop];omega
 have a1:((s.data.toList.drop 8).take 8).length=8:=by rw[List.length_take,List.length_drop];omega
 have a2:((s.data.toList.drop 16).take 8).length=8:=by rw[List.length_take,List.length_drop];omega
 have b0:=be_un ((s.data.toList.drop 0).take 8)
 have b1:=be_un ((s.data.toList.drop 8).take 8)
 have b2:=be_un ((s.data.toList.drop 16).take 8)
 rw[a0] at b0
 rw[a1] at b1
 rw[a2] at b2
 have g0:getS (s.extract 0 8)=un ((s.data.toList.drop 0).take 8):=getS_of (ext_list s 0 8) a0
 have g1:enV s=un ((s.data.toList.drop 8).take 8):=getS_of (ext_list s 8 16) a1
 have g2:enP s=un ((s.data.toList.drop 16).take 8):=getS_of (ext_list s 16 24) a2
 have e:putL (enG s)=s.data.toList:=by
  unfold enG putL
  rw[if_pos h]
  show be 8 (getS (s.extract 0 8))++(be 8 ((enV s:Nat):Int).toNat++be 8 ((enP s:Nat):Int).toNat)=_
  rw[Int.toNat_natCast,Int.toNat_natCast,g0,g1,g2,b0,b1,b2,List.drop_zero]
  rw[show(16:Nat)=8+8 from rfl,← List.drop_drop]
  have q:(((s.data.toList.drop 8).drop 8).take 8)=(s.data.toList.drop 8).drop 8:=List.take_of_length_le (by rw[List.length_drop,List.length_drop];omega)
  rw[q,List.take_append_drop,List.take_append_drop]
 unfold putE
 rw[if_pos hm,e,bs_data]
theorem enG_no {s:ByteArray}(h:enOk s=false) : enG s=⟨0,0,0⟩:=by unfold enG;rw[h];rfl
theorem en_size {s:ByteArray}(h:s.size≠24) : enOk s=false:=by unfold enOk;exact decide_eq_false (fun x=>h x.1)
def sortedE : List EntS→Bool
 | []=>true
 | [_]=>true
 | x::y::l=>lessE x y&&sortedE (y::l)
theorem sortedE_yes : ∀ {l:List EntS},(∀ (i:Nat) (x y:EntS),l[i]? = some x→l[i+1]? = some y→lessE x y=true)→sortedE l=true
 | [],_=>rfl
 | [_],_=>rfl
 | x::y::l,h=>by
   unfold sortedE
   rw[h 0 x y rfl rfl,Bool.true_and]
   exact sortedE_yes fun i a b ha hb=>h (i+1) a b (by simpa using ha) (by simpa using hb)
theorem sortedE_at : ∀ {l:List EntS},sortedE l=true→∀ (i:Nat) (x y:EntS),l[i]? = some x→l[i+1]? = some y→lessE x y=true
 | [],_=>fun i x y hx _=>by simp at hx
 | [_],_=>fun i x y _ hy=>by simp at hy
 | a::b::l,h=>by
   unfold sortedE at h
   rw[Bool.and_eq_true] at h
   intro i x y hx hy
   cases i with
   | zero =>
     obtain rfl:a=x:=by simpa using hx
     obtain rfl:b=y:=by simpa using hy
     exact h.1
   | succ i=>exact sortedE_at h.2 i x y (by simpa using hx) (by simpa using hy)
theorem sortedE_no {l:List EntS}{i:Nat}{x y:EntS}(hx:l[i]? = some x)(hy:l[i+1]? = some y)(h:lessE x y=false) : sortedE l=false:=by
 cases hs:sortedE l with
 | false=>rfl
 | true=>rw[sortedE_at hs i x y hx hy] at h;cases h
def RiseE (l:List EntS) : Prop:=l.Pairwise (fun x y=>lessE x y=true)
theorem RiseE.sorted {l:List EntS}(h:RiseE l) : sortedE l=true:=sortedE_yes fun i x y hx hy=>by
 have hi:=(List.getElem?_eq_some_iff.1 hy).1
 have:=List.pairwise_iff_getElem.1 h i (i+1) (by omega) hi (by omega)
 rw[List.getElem?_eq_getElem (by omega)] at hx
 rw[List.getElem?_eq_getElem hi] at hy
 rw[← Option.some.inj hx,← Option.some.inj hy]
 exact this
theorem sorted_rise : ∀ {l:List EntS},sortedE l=true→RiseE l
 | [],_=>List.Pairwise.nil
 | [x],_=>List.pairwise_singleton _ _
 | x::y::l,h=>by
   unfold sortedE at h
   rw[Bool.and_eq_true] at h
   have hr:=sorted_rise h.2
   refine List.Pairwise.cons (fun z hz=>?_) hr
   rcases List.mem_cons.1 hz with rfl | hz
   ·exact h.1
   ·exact lessE_trans h.1 ((List.pairwise_cons.1 hr).1 z hz)
def posE (l:List EntS)(x:EntS) : Nat:=l.findIdx (fun y=>!lessE y x)
def layEn (l:List EntS)(x:EntS) : List EntS:=if l[posE l x]? = some x then l else l.take (posE l x)++[x]++l.drop (posE l x)
def sortE (l:List EntS) : List EntS:=l.foldl layEn []
theorem posE_le (l:List EntS)(x:EntS) : posE l x≤l.length:=List.findIdx_le_length
theorem posE_at {l:List EntS}{x:EntS}{k:Nat}(hk:k≤l.length)(hall:∀ j y,j<k→l[j]? = some y→lessE y x=true) : k≤posE l x:=by
 unfold posE
 rcases Nat.lt_or_ge (l.findIdx (fun y=>!lessE y x)) k with c | c
 ·have hlt:l.findIdx (fun y=>!lessE y x)<l.length:=by omega
  have h:=List.findIdx_getElem (w:=hlt)
  have h2:=hall _ _ c (List.getElem?_eq_getElem hlt)
  simp only[Bool.not_eq_true'] at h
  rw[h] at h2
  cases h2
 ·exact c
theorem posE_lt {l:List EntS}{x:EntS}{k:Nat}{y:EntS}(h:l[k]? = some y)(hf:lessE y x=false) : posE l x≤k:=by
 unfold posE
 have hk:k<l.length:=(List.getElem?_eq_some_iff.1 h).1
 rcases Nat.lt_or_ge k (l.findIdx (fun y=>!lessE y x)) with c | c
 ·have:=List.not_of_lt_findIdx c
  rw[List.getElem?_eq_getElem hk] at h
  have e:l[k]=y:=by simpa using h
  rw[e] at this
  simp[hf] at this
 ·exact c
theorem pos_take (l:List EntS)(x:EntS) : ∀ y∈l.take (posE l x),lessE y x=true:=by
 intro y hy
 obtain⟨j,hj⟩:=List.getElem?_of_mem hy
 have hjl:=(List.getElem?_eq_some_iff.1 hj).1
 rw[List.length_take] at hjl
 rw[List.getElem?_take,if_pos (by omega),List.getElem?_eq_getElem (by omega)] at hj
 have e:=Option.some.inj hj
 have:=List.not_of_lt_findIdx (p:=fun y=>!lessE y x) (xs:=l) (i:=j) (by unfold posE at hjl;omega)
 rw[e] at this
 simpa using this
theorem pos_drop {l:List EntS}{x:EntS}(hr:RiseE l)(hne:l[posE l x]?≠some x) : ∀ y∈l.drop (posE l x),lessE x y=true:=by
 rcases Nat.lt_or_ge (posE l x) l.length with c | c
 ·have e:l.drop (posE l x)=l[posE l x]::l.drop (posE l x+1):=List.drop_eq_getElem_cons c
  have h0:lessE l[posE l x] x=false:=by
   have h:(!lessE l[posE l x] x)=true:=List.findIdx_getElem (p:=fun y=>!lessE y x) (xs:=l) (w:=c)
   rw[Bool.not_eq_true'] at h
   exact h
  have h1:l[posE l x]≠x:=fun h=>hne (by rw[List.getElem?_eq_getElem c,h])
  have h2:=lessE_other h0 h1
  have hd:RiseE (l.drop (posE l x)):=List.Pairwise.drop hr
  rw[e] at hd ⊢
  intro y hy
  rcases List.mem_cons.1 hy with rfl | hy
  ·exact h2
  ·exact lessE_trans h2 ((List.pairwise_cons.1 hd).1 y hy)
 ·rw[List.drop_eq_nil_of_le c]
  intro y hy
  cases hy
theorem rise_layE {l:List EntS}(hr:RiseE l)(x:EntS) : RiseE (layEn l x):=by
 unfold layEn
 split
 ·exact hr
 ·rename_i hne
  have h1:=pos_take l x
  have h2:=pos_drop hr hne
  refine List.pairwise_append.2 ⟨List.pairwise_append.2 ⟨List.Pairwise.take hr,List.pairwise_singleton _ _,fun a ha b hb=>?_⟩,List.Pairwise.drop hr,fun a ha b hb=>?_⟩
  ·rw[List.mem_singleton.1 hb]
   exact h1 a ha
  ·rcases List.mem_append.1 ha with ha | ha
   ·exact lessE_trans (h1 a ha) (h2 b hb)
   ·rw[List.mem_singleton.1 ha]
    exact h2 b hb
theorem mem_layE {l:List EntS}{x y:EntS}(h:y∈layEn l x) : y∈l∨y=x:=by
 unfold layEn at h
 split at h
 ·exact Or.inl h
 ·rcases List.mem_append.1 h with h | h
  ·rcases List.mem_append.1 h with h | h
   ·exact Or.inl (List.mem_of_mem_take h)
   ·exact Or.inr (List.mem_singleton.1 h)
  ·exact Or.inl (List.mem_of_mem_drop h)
theorem layE_length (l:List EntS)(x:EntS) : (layEn l x).length≤l.length+1:=by
 unfold layEn
 split
 ·omega
 ·rw[List.length_append,List.length_append,List.length_take,List.length_drop,List.length_singleton]
  have:=posE_le l x
  omega
theorem sort_fold : ∀ (l acc:List EntS),RiseE acc→RiseE (l.foldl layEn acc)∧(l.foldl layEn acc).length≤acc.length+l.length∧∀ y∈l.foldl layEn acc,y∈acc∨y∈l
 | [],acc,h=>⟨h,by simp,fun y hy=>Or.inl hy⟩
 | x::l,acc,h=>by
   obtain⟨h1,h2,h3⟩:=sort_fold l (layEn acc x) (rise_layE h x)
   refine⟨h1, ?_,fun y hy=>?_⟩
   ·have:=layE_length acc x
    rw[List.foldl_cons,List.length_cons]
    omega
   ·rcases h3 y hy with h | h
    ·rcases mem_layE h with h | h
     ·exact Or.inl h
     ·exact Or.inr (by rw[h];exact List.mem_cons_self)
    ·exact Or.inr (List.mem_cons_of_mem _ h)
theorem ent_take (l:List EntS)(k:Nat)(x:EntS)(h:l[k]? = some x) : l.take (k+1)=l.take k++[x]:=by
 rw[List.take_add_one,h]
 rfl
theorem sort_take {l:List EntS}{k:Nat}{x:EntS}(h:l[k]? = some x) : sortE (l.take (k+1))=layEn (sortE (l.take k)) x:=by
 rw[ent_take l k x h]
 unfold sortE
 rw[List.foldl_append]
 rfl
def srchQ (h:Nat)(v:Int)(x:EntS) : Bool:=decide (x.h<h∨(x.h=h∧x.v<v))
def thruQ (h:Nat)(v:Int)(x:EntS) : Bool:=decide (x.h<h∨(x.h=h∧x.v≤v))
def inQ (h:Nat)(a b:Int)(x:EntS) : Bool:=decide (x.h=h∧a≤x.v∧x.v≤b)
def upQ (h:Nat)(b:Int)(x:EntS) : Bool:=decide (x.h=h∧x.v≤b)
def searchE (l:List EntS)(h:Nat)(v:Int) : Nat:=l.countP (srchQ h v)
def rangeE (l:List EntS)(h:Nat)(a b:Int) : List EntS:=l.filter (inQ h a b)
def lastO (l:List EntS)(h:Nat)(b:Int) : Option EntS:=(l.filter (upQ h b)).getLast?
def lastE (l:List EntS)(h:Nat)(b:Int) : EntS:=(lastO l h b).getD ⟨0,0,0⟩
def lastOk (l:List EntS)(h:Nat)(b:Int) : Bool:=(lastO l h b).isSome
def IsCut (q:EntS→Bool)(l:List EntS)(k:Nat) : Prop:=∀ (i:Nat) (x:EntS),l[i]? = some x→q x=decide (i<k)
theorem cut_count {q:EntS→Bool}(hq:∀ x y,lessE x y=true→q y=true→q x=true) : ∀ {l:List EntS},RiseE l→IsCut q l (l.countP q)
 | [],_=>fun i x h=>by simp at h
 | a::l,hr=>by
   obtain⟨h1,h2⟩:=List.pairwise_cons.1 hr
   have ih:=cut_count hq h2
   intro i x hx
   cases ha:q a with
   | true =>
     rw[List.countP_cons_of_pos ha]
     cases i with
     | zero =>
       obtain rfl:a=x:=by simpa using hx
       rw[ha,decide_eq_true (Nat.succ_pos _)]
     | succ i =>
       rw[ih i x (by simpa using hx),decide_eq_decide]
       omega
   | false =>
     have hn:∀ y∈l,q y=false:=fun y hy=>by
      cases h:q y with
      | false=>rfl
      | true=>rw[hq a y (h1 y hy) h] at ha;cases ha
     have h0:l.countP q=0:=List.countP_eq_zero.2 fun y hy=>by rw[hn y hy];decide
     rw[List.countP_cons_of_neg (by rw[ha];decide),h0,decide_eq_false (Nat.not_lt_zero _)]
     cases i with
     | zero =>
       obtain rfl:a=x:=by simpa using hx
       exact ha
     | succ i=>exact hn x (List.mem_of_getElem? (by simpa using hx))
theorem srch_down (h:Nat)(v:Int) : ∀ x y,lessE x y=true→srchQ h v y=true→srchQ h v x=true:=by
 intro x y hl hy
 rw[lessE_iff] at hl
 have:=of_decide_eq_true hy
 exact decide_eq_true (by omega)
theorem thru_down (h:Nat)(v:Int) : ∀ x y,lessE x y=true→thruQ h v y=true→thruQ h v x=true:=by
 intro x y hl hy
 rw[lessE_iff] at hl
 have:=of_decide_eq_true hy
 exact decide_eq_true (by omega)
theorem IsCut.tail {q:EntS→Bool}{x:EntS}{l:List EntS}{k:Nat}(h:IsCut q (x::l) k) : q x=decide (0<k)∧IsCut q l (k-1) :=
 ⟨h 0 x rfl,fun i y hy=>by rw[h (i+1) y (by simpa using hy),decide_eq_decide];omega⟩
theorem cut_range {q r:EntS→Bool} : ∀ {l:List EntS} {a b:Nat},IsCut q l a→IsCut r l b→l.filter (fun x=>!q x&&r x)=(l.drop a).take (b-a)
 | [],a,b,_,_=>by simp
 | x::l,a,b,hq,hr=>by
   obtain⟨q0,q1⟩:=hq.tail
   obtain⟨r0,r1⟩:=hr.tail
   have ih:=cut_range q1 r1
   rw[List.filter_cons,q0,r0,ih]
   cases a with
   | zero =>
     cases b with
     | zero=>simp
     | succ b=>simp
   | succ a =>
     have e:decide (0<a+1)=true:=decide_eq_true (Nat.succ_pos _)
     rw[e]
     simp only[Bool.not_true,Bool.false_and,Bool.false_eq_true,if_false,Nat.add_sub_cancel,List.drop_succ_cons]
     congr 1
     omega
theorem range_cut {l:List EntS}{h:Nat}{a b:Int}{i j:Nat}(h1:IsCut (srchQ h a) l i)(h2:IsCut (thruQ h b) l j) : rangeE l h a b=(l.drop i).take (j-i):=by
 rw[← cut_range h1 h2]
 unfold rangeE
 congr 1
 funext x
 unfold inQ srchQ thruQ
 rw[← decide_not,← Bool.decide_and,decide_eq_decide]
 omega
theorem enlast_at {p:EntS→Bool}{l:List EntS}{i:Nat}{x:EntS}(hx:l[i]? = some x)(hp:p x=true)(hn:∀ j y,i<j→l[j]? = some y→p y=false) : (l.filter p).getLast? = some x:=by
 obtain⟨hi,e⟩:=List.getElem?_eq_some_iff.1 hx
 have e1:l=l.take i++(x::l.drop (i+1)):=by
  rw[← e,← List.drop_eq_getElem_cons hi,List.take_append_drop]
 have e2:(l.drop (i+1)).filter p=[]:=by
  rw[List.filter_eq_nil_iff]
  intro y hy
  obtain⟨j,hj⟩:=List.getElem?_of_mem hy
  rw[List.getElem?_drop] at hj
  rw[hn _ y (by omega) hj]
  decide
 rw[e1,List.filter_append,List.filter_cons,if_pos hp,e2]
 simp
theorem last_none {p:EntS→Bool}{l:List EntS}(hn:∀ y∈l,p y=false) : (l.filter p).getLast? = none:=by
 have:l.filter p=[]:=List.filter_eq_nil_iff.2 fun y hy=>by rw[hn y hy];decide
 rw[this]
 rfl
theorem last_cut {l:List EntS}{h:Nat}{b:Int}{k:Nat}{x:EntS}(hc:IsCut (thruQ h b) l (k+1))(hx:l[k]? = some x)(hh:x.h=h) : lastO l h b=some x:=by
 have h1:=of_decide_eq_true ((hc k x hx).trans (decide_eq_true (Nat.lt_succ_self k)))
 refine enlast_at hx (decide_eq_true ⟨hh,by omega⟩) fun j y hj hy=>?_
 have h2:=of_decide_eq_false ((hc j y hy).trans (decide_eq_false (by omega)))
 exact decide_eq_false (by omega)
theorem last_cut_no {l:List EntS}{h:Nat}{b:Int}{k:Nat}{x:EntS}(hr:RiseE l)(hc:IsCut (thruQ h b) l (k+1))(hx:l[k]? = some x)(hh:x.h≠h) : lastO l h b=none:=by
 refine last_none fun y hy=>?_
 obtain⟨j,hj⟩:=List.getElem?_of_mem hy
 have h1:=of_decide_eq_true ((hc k x hx).trans (decide_eq_true (Nat.lt_succ_self k)))
 have hc2:=hc j y hj
 unfold upQ
 rcases Nat.lt_trichotomy j k with c | c | c
 ·have hk:=(List.getElem?_eq_some_iff.1 hx).1
  have:=List.pairwise_iff_getElem.1 hr j k (by omega) hk c
  rw[List.getElem?_eq_getElem (by omega)] at hj
  rw[List.getElem?_eq_getElem hk] at hx
  rw[Option.some.inj hj,Option.some.inj hx,lessE_iff] at this
  exact decide_eq_false (by omega)
 ·subst c
  rw[hj] at hx
  obtain rfl:=Option.some.inj hx
  exact decide_eq_false (by omega)
 ·rw[decide_eq_false (by omega)] at hc2
  have:=of_decide_eq_false hc2
  exact decide_eq_false (by omega)
theorem last_cut_zero {l:List EntS}{h:Nat}{b:Int}(hc:IsCut (thruQ h b) l 0) : lastO l h b=none:=by
 refine last_none fun y hy=>?_
 obtain⟨j,hj⟩:=List.getElem?_of_mem hy
 have:=of_decide_eq_false ((hc j y hj).trans (decide_eq_false (Nat.not_lt_zero _)))
 exact decide_eq_false (by omega)
theorem lay_keeps {l:List EntS}{x y:EntS}(h:y∈l) : y∈layEn l x:=by
 unfold layEn
 split
 ·exact h
 ·rw[← List.take_append_drop (posE l x) l] at h
  rcases List.mem_append.1 h with h | h
  ·exact List.mem_append_left _ (List.mem_append_left _ h)
  ·exact List.mem_append_right _ h
theorem lay_has (l:List EntS)(x:EntS) : x∈layEn l x:=by
 unfold layEn
 split
 ·rename_i h
  exact List.mem_of_getElem? h
 ·exact List.mem_append_left _ (List.mem_append_right _ (List.mem_singleton.2 rfl))
theorem mem_lay {l:List EntS}{x y:EntS} : y∈layEn l x↔y∈l∨y=x :=
 ⟨mem_layE,fun h=>by
  rcases h with h | rfl
  ·exact lay_keeps h
  ·exact lay_has l y⟩
theorem mem_fold : ∀ (l acc:List EntS) (y:EntS),y∈l.foldl layEn acc↔y∈acc∨y∈l
 | [],acc,y=>by simp
 | x::l,acc,y=>by
   rw[List.foldl_cons,mem_fold l (layEn acc x) y,mem_lay,List.mem_cons]
   constructor
   ·rintro ((h | h) | h)
    ·exact Or.inl h
    ·exact Or.inr (Or.inl h)
    ·exact Or.inr (Or.inr h)
   ·rintro (h | h | h)
    ·exact Or.inl (Or.inl h)
    ·exact Or.inl (Or.inr h)
    ·exact Or.inr h
theorem pos_mem {l:List EntS}(hr:RiseE l){x:EntS}(h:x∈l) : l[posE l x]? = some x:=by
 rcases Decidable.em (l[posE l x]? = some x) with c | c
 ·exact c
 ·rw[← List.take_append_drop (posE l x) l] at h
  rcases List.mem_append.1 h with h | h
  ·have:=pos_take l x x h
   rw[lessE_irrefl] at this
   cases this
  ·have:=pos_drop hr c x h
   rw[lessE_irrefl] at this
   cases this
theorem pos_mem_iff {l:List EntS}(hr:RiseE l){x:EntS} : l[posE l x]? = some x↔x∈l:=⟨List.mem_of_getElem?,pos_mem hr⟩
theorem lay_old {l:List EntS}(hr:RiseE l){x:EntS}(h:x∈l) : layEn l x=l:=by unfold layEn;rw[if_pos (pos_mem hr h)]
theorem mlay_new {l:List EntS}{x:EntS}(h:x ∉ l) : layEn l x=l.take (posE l x)++([x]++l.drop (posE l x)):=by
 unfold layEn
 rw[if_neg (fun k=>h (List.mem_of_getElem? k)),List.append_assoc]
theorem pos_ask {l:List EntS}(hr:RiseE l){x y:EntS}{i:Nat}(h:l[i]? = some y) : (!lessE y x)=decide (posE l x≤i):=by
 by_cases c:posE l x≤i
 ·rw[decide_eq_true c]
  cases hl:lessE y x with
  | false=>rfl
  | true =>
    exfalso
    have hi:=(List.getElem?_eq_some_iff.1 h).1
    have hp:posE l x<l.length:=by omega
    have h0:(!lessE l[posE l x] x)=true:=List.findIdx_getElem (p:=fun y=>!lessE y x) (xs:=l) (w:=hp)
    rw[Bool.not_eq_true'] at h0
    rcases Nat.lt_or_ge (posE l x) i with k | k
    ·have:=List.pairwise_iff_getElem.1 hr (posE l x) i hp hi k
     rw[List.getElem?_eq_getElem hi] at h
     rw[Option.some.inj h] at this
     rw[lessE_trans this hl] at h0
     cases h0
    ·have e:i=posE l x:=by omega
     subst e
     rw[List.getElem?_eq_getElem hi] at h
     rw[Option.some.inj h,hl] at h0
     cases h0
 ·rw[decide_eq_false c]
  have hm:y∈l.take (posE l x):=List.mem_of_getElem? (i:=i) (by rw[List.getElem?_take,if_pos (by omega)];exact h)
  rw[pos_take l x y hm]
  rfl
theorem rise_ext : ∀ {a b:List EntS},RiseE a→RiseE b→(∀ y,y∈a↔y∈b)→a=b
 | [],[],_,_,_=>rfl
 | [],y::b,_,_,h=>absurd ((h y).2 List.mem_cons_self) (by simp)
 | x::a,[],_,_,h=>absurd ((h x).1 List.mem_cons_self) (by simp)
 | x::a,y::b,ha,hb,h=>by
   obtain⟨a1,a2⟩:=List.pairwise_cons.1 ha
   obtain⟨b1,b2⟩:=List.pairwise_cons.1 hb
   have e:x=y:=by
    rcases List.mem_cons.1 ((h x).1 List.mem_cons_self) with k | k
    ·exact k
    ·rcases List.mem_cons.1 ((h y).2 List.mem_cons_self) with j | j
     ·exact j.symm
     ·have h1:=lessE_asymm (b1 x k)
      rw[a1 y j] at h1
      cases h1
   subst e
   rw[rise_ext a2 b2 fun z=>⟨fun hz=>by
    rcases List.mem_cons.1 ((h z).1 (List.mem_cons_of_mem _ hz)) with k | k
    ·subst k
     have:=a1 z hz
     rw[lessE_irrefl] at this
     cases this
    ·exact k,fun hz=>by
    rcases List.mem_cons.1 ((h z).2 (List.mem_cons_of_mem _ hz)) with k | k
    ·subst k
     have:=b1 z hz
     rw[lessE_irrefl] at this
     cases this
    ·exact k⟩]
def minStep (m:Option EntS) : List EntS→Option EntS
 | []=>m
 | x::_=>match m with
   | none=>some x
   | some y=>if lessE x y=true then some x else some y
def minL (L:List (List EntS)) : Option EntS:=L.foldl minStep none
def stripE (e:EntS)(l:List EntS) : List EntS:=l.dropWhile (fun x=>decide (x=e))
def addE (a:List EntS)(e:EntS) : List EntS:=if a.getLast? = some e then a else a++[e]
def totL (L:List (List EntS)) : Nat:=(L.map List.length).sum
def mrgF : Nat→List EntS→List (List EntS)→List EntS
 | 0,a,_=>a
 | n+1,a,L=>match minL L with
   | none=>a
   | some e=>mrgF n (addE a e) (L.map (stripE e))
def mrg (a:List EntS)(L:List (List EntS)) : List EntS:=mrgF (totL L) a L
def mergeE (L:List (List EntS)) : List EntS:=mrg [] L
theorem minL_take {L:List (List EntS)}{i:Nat}{l:List EntS}(h:L[i]? = some l) : minL (L.take (i+1))=minStep (minL (L.take i)) l:=by
 unfold minL
 rw[List.take_add_one,h,List.foldl_append]
 rfl
theorem minF_none : ∀ (L:List (List EntS)) (m:Option EntS),L.foldl minStep m=none↔m=none∧∀ l∈L,l=[]
 | [],m=>by simp
 | []::L,m=>by
   rw[List.foldl_cons,minF_none L]
   simp[minStep]
 | (x::t)::L,m=>by
   rw[List.foldl_cons,minF_none L]
   constructor
   ·rintro ⟨h,_⟩
    cases m with
    | none=>cases h
    | some y =>
      simp only[minStep] at h
      split at h<;>cases h
   ·rintro ⟨_,h⟩
    have:=h (x::t) List.mem_cons_self
    cases this
theorem minL_none {L:List (List EntS)} : minL L=none↔∀ l∈L,l=[]:=by
 unfold minL
 rw[minF_none]
 simp
theorem less_not {x y e:EntS}(h:lessE x y=false)(k:lessE y e=false) : lessE x e=false:=by
 cases c:lessE x e with
 | false=>rfl
 | true =>
   by_cases hye:y=e
   ·subst hye
    rw[c] at h
    cases h
   ·have:=lessE_trans c (lessE_other k hye)
    rw[this] at h
    cases h
theorem minF_some : ∀ (L:List (List EntS)) (m:Option EntS) (e:EntS),L.foldl minStep m=some e →
  (m=some e∨∃ l∈L,∃ t,l=e::t)∧(∀ y,m=some y→lessE y e=false)∧∀ l∈L,∀ x t,l=x::t→lessE x e=false
 | [],m,e,h=>by
   have h':m=some e:=h
   subst h'
   exact⟨Or.inl rfl,fun y hy=>by cases hy;exact lessE_irrefl _,fun l hl=>by cases hl⟩
 | []::L,m,e,h=>by
   rw[List.foldl_cons] at h
   obtain⟨h1,h2,h3⟩:=minF_some L m e h
   refine⟨?_,h2,fun l hl x t hx=>?_⟩
   ·rcases h1 with h1 | ⟨l,hl,t,ht⟩
    ·exact Or.inl h1
    ·exact Or.inr ⟨l,List.mem_cons_of_mem _ hl,t,ht⟩
   ·rcases List.mem_cons.1 hl with rfl | hl
    ·cases hx
    ·exact h3 l hl x t hx
 | (x::t)::L,m,e,h=>by
   rw[List.foldl_cons] at h
   obtain⟨h1,h2,h3⟩:=minF_some L _ e h
   have hx:lessE x e=false∧(∀ y,m=some y→lessE y e=false)∧(m=some e∨∃ l∈(x::t)::L,∃ t,l=e::t):=by
    have far:(∃ l∈L,∃ t,l=e::t)→∃ l∈(x::t)::L,∃ t,l=e::t:=fun⟨l,hl,t',ht⟩=>⟨l,List.mem_cons_of_mem _ hl,t',ht⟩
    cases m with
    | none =>
      refine⟨h2 x rfl,fun y hy=>(by cases hy), ?_⟩
      rcases h1 with h1 | h1
      ·have:x=e:=Option.some.inj h1
       subst this
       exact Or.inr ⟨_,List.mem_cons_self,t,rfl⟩
      ·exact Or.inr (far h1)
    | some y =>
      cases c:lessE x y with
      | true =>
        have hm:minStep (some y) (x::t)=some x:=by unfold minStep;simp only;rw[if_pos c]
        rw[hm] at h1 h2
        refine⟨h2 x rfl,fun z hz=>?_, ?_⟩
        ·cases hz
         cases d:lessE y e with
         | false=>rfl
         | true=>have:=lessE_trans c d;rw[h2 x rfl] at this;cases this
        ·rcases h1 with h1 | h1
         ·have:x=e:=Option.some.inj h1
          subst this
          exact Or.inr ⟨_,List.mem_cons_self,t,rfl⟩
         ·exact Or.inr (far h1)
      | false =>
        have hm:minStep (some y) (x::t)=some y:=by unfold minStep;simp only;rw[if_neg (by rw[c];decide)]
        rw[hm] at h1 h2
        refine⟨less_not c (h2 y rfl),fun z hz=>by cases hz;exact h2 y rfl, ?_⟩
        rcases h1 with h1 | h1
        ·exact Or.inl h1
        ·exact Or.inr (far h1)
   refine⟨hx.2.2,hx.2.1,fun l hl z u hz=>?_⟩
   rcases List.mem_cons.1 hl with rfl | hl
   ·injection hz with hz
    rw[← hz]
    exact hx.1
   ·exact h3 l hl z u hz
theorem minL_mem {L:List (List EntS)}{e:EntS}(h:minL L=some e) : ∃ l∈L,∃ t,l=e::t:=by
 rcases(minF_some L none e h).1 with h | h
 ·cases h
 ·exact h
theorem minL_le {L:List (List EntS)}{e:EntS}(h:minL L=some e) : ∀ l∈L,∀ x t,l=x::t→lessE x e=false:=(minF_some L none e h).2.2
theorem strip_le (e:EntS)(l:List EntS) : (stripE e l).length≤l.length:=(List.dropWhile_sublist _).length_le
theorem strip_cons (e:EntS)(t:List EntS) : stripE e (e::t)=stripE e t:=by unfold stripE;rw[List.dropWhile_cons,if_pos (by simp)]
theorem strip_other {e x:EntS}(h:x≠e)(t:List EntS) : stripE e (x::t)=x::t:=by unfold stripE;rw[List.dropWhile_cons,if_neg (by simpa using h)]
theorem totL_cons (l:List EntS)(L:List (List EntS)) : totL (l::L)=l.length+totL L:=by unfold totL;simp
theorem tot_le (e:EntS) : ∀ L:List (List EntS),totL (L.map (stripE e))≤totL L
 | []=>Nat.le_refl _
 | l::L=>by
   rw[List.map_cons,totL_cons,totL_cons]
   have:=tot_le e L
   have:=strip_le e l
   omega
theorem tot_lt (e:EntS) : ∀ L:List (List EntS),(∃ l∈L,∃ t,l=e::t)→totL (L.map (stripE e))<totL L
 | [],h=>by obtain⟨l,hl,_⟩:=h;cases hl
 | l::L,⟨m,hm,t,ht⟩=>by
   rw[List.map_cons,totL_cons,totL_cons]
   have h1:=tot_le e L
   have h2:=strip_le e l
   rcases List.mem_cons.1 hm with rfl | hm
   ·subst ht
    have h3:=strip_le e t
    rw[strip_cons,List.length_cons]
    omega
   ·have:=tot_lt e L ⟨m,hm,t,ht⟩
    omega
theorem tot_zero {L:List (List EntS)}(h:totL L=0) : minL L=none:=by
 rw[minL_none]
 induction L with
 | nil=>intro l hl;cases hl
 | cons a L ih =>
   rw[totL_cons] at h
   intro l hl
   rcases List.mem_cons.1 hl with rfl | hl
   ·exact List.length_eq_zero_iff.1 (by omega)
   ·exact ih (by omega) l hl
theorem mrgF_same : ∀ (n m:Nat) (a:List EntS) (L:List (List EntS)),totL L≤n→totL L≤m→mrgF n a L=mrgF m a L
 | 0,0,a,L,_,_=>rfl
 | 0,m+1,a,L,h,_=>by
   have:=tot_zero (L:=L) (by omega)
   rw[mrgF,mrgF,this]
 | n+1,0,a,L,_,h=>by
   have:=tot_zero (L:=L) (by omega)
   rw[mrgF,mrgF,this]
 | n+1,m+1,a,L,h1,h2=>by
   rw[mrgF,mrgF]
   cases c:minL L with
   | none=>rfl
   | some e =>
     have:=tot_lt e L (minL_mem c)
     exact mrgF_same n m _ _ (by omega) (by omega)
theorem mrg_none {a:List EntS}{L:List (List EntS)}(h:minL L=none) : mrg a L=a:=by
 unfold mrg
 cases totL L with
 | zero=>rfl
 | succ n=>rw[mrgF,h]
theorem mrg_some {a:List EntS}{L:List (List EntS)}{e:EntS}(h:minL L=some e) : mrg a L=mrg (addE a e) (L.map (stripE e)):=by
 have hl:=tot_lt e L (minL_mem h)
 unfold mrg
 obtain⟨n,hn⟩:∃ n,totL L=n+1:=⟨totL L-1,by omega⟩
 rw[hn,mrgF,h]
 exact mrgF_same _ _ _ _ (by omega) (Nat.le_refl _)
theorem addE_length (a:List EntS)(e:EntS) : a.length≤(addE a e).length∧(addE a e).length≤a.length+1:=by
 unfold addE
 split
 ·omega
 ·rw[List.length_append,List.length_singleton];omega
theorem mrgF_length : ∀ (n:Nat) (a:List EntS) (L:List (List EntS)),totL L≤n→a.length≤(mrgF n a L).length∧(mrgF n a L).length≤a.length+totL L
 | 0,a,L,_=>⟨Nat.le_refl _,by rw[mrgF];omega⟩
 | n+1,a,L,h=>by
   rw[mrgF]
   cases c:minL L with
   | none=>exact⟨Nat.le_refl _,by simp only;omega⟩
   | some e =>
     have h1:=tot_lt e L (minL_mem c)
     have h2:=addE_length a e
     have h3:=mrgF_length n (addE a e) (L.map (stripE e)) (by omega)
     exact⟨by simp only;omega,by simp only;omega⟩
theorem mrg_length (a:List EntS)(L:List (List EntS)) : a.length≤(mrg a L).length:=(mrgF_length _ a L (Nat.le_refl _)).1
theorem merge_length (L:List (List EntS)) : (mergeE L).length≤totL L:=by
 have:=(mrgF_length _ [] L (Nat.le_refl _)).2
 rw[List.length_nil,Nat.zero_add] at this
 exact this
def leftL (a:List EntS)(L:List (List EntS)) : List (List EntS):=match a.getLast? with
 | none=>L
 | some e=>L.map (stripE e)
def finL (a:List EntS)(L:List (List EntS)) : List EntS:=mrg a (leftL a L)
theorem left_self {a:List EntS}{L:List (List EntS)}(hno:∀ l∈L,∀ x t,l=x::t→a.getLast?≠some x) : leftL a L=L:=by
 unfold leftL
 cases h:a.getLast? with
 | none=>rfl
 | some e =>
   show L.map (stripE e)=L
   have:∀ l∈L,stripE e l=l:=fun l hl=>by
    cases l with
    | nil=>rfl
    | cons x t=>exact strip_other (fun hx=>hno _ hl x t rfl (by rw[h,hx])) t
   rw[List.map_congr_left this]
   exact List.map_id' L
theorem fin_drop {a:List EntS}{L:List (List EntS)}{i:Nat}{e:EntS}{t:List EntS}(ha:a.getLast? = some e)(h:L[i]? = some (e::t)) : finL a (L.set i t)=finL a L:=by
 unfold finL leftL
 rw[ha]
 show mrg a ((L.set i t).map (stripE e))=mrg a (L.map (stripE e))
 congr 1
 apply List.ext_getElem?
 intro j
 rw[List.getElem?_map,List.getElem?_map,List.getElem?_set]
 by_cases hij:i=j
 ·subst hij
  have hi:=(List.getElem?_eq_some_iff.1 h).1
  rw[if_pos rfl,if_pos hi,h]
  show some (stripE e t)=some (stripE e (e::t))
  rw[strip_cons]
 ·rw[if_neg hij]
theorem fin_add {a:List EntS}{L:List (List EntS)}{e:EntS}(h:minL L=some e)(hno:∀ l∈L,∀ x t,l=x::t→a.getLast?≠some x) : finL (a++[e]) L=finL a L:=by
 have h1:a.getLast?≠some e:=by
  obtain⟨l,hl,t,ht⟩:=minL_mem h
  exact hno l hl e t ht
 unfold finL
 rw[left_self hno,mrg_some h]
 unfold addE leftL
 rw[if_neg h1,List.getLast?_append,List.getLast?_singleton]
 rfl
theorem fin_end {a:List EntS}{L:List (List EntS)}(h:minL L=none) : finL a L=a:=by
 unfold finL
 rw[left_self (fun l hl x t ht=>by have:=minL_none.1 h l hl;rw[this] at ht;cases ht),mrg_none h]
theorem fin_length (a:List EntS)(L:List (List EntS)) : a.length≤(finL a L).length:=mrg_length _ _
theorem tot_set : ∀ {L:List (List EntS)} {i:Nat} {e:EntS} {t:List EntS},L[i]? = some (e::t)→totL (L.set i t)+1=totL L
 | [],i,e,t,h=>by simp at h
 | l::L,0,e,t,h=>by
   obtain rfl:l=e::t:=by simpa using h
   rw[List.set_cons_zero,totL_cons,totL_cons,List.length_cons]
   omega
 | l::L,i+1,e,t,h=>by
   have:=tot_set (L:=L) (i:=i) (e:=e) (t:=t) (by simpa using h)
   rw[List.set_cons_succ,totL_cons,totL_cons]
   omega
def Goes (k:Nat)(a:List EntS)(L:List (List EntS)) : Prop:=2*totL L+1≤k∨(2*totL L≤k∧∃ l∈L,∃ e t,l=e::t∧a.getLast? = some e)
theorem goes_start (L:List (List EntS)) : Goes (2*totL L+1) [] L:=Or.inl (Nat.le_refl _)
theorem goes_drop {k:Nat}{a:List EntS}{L:List (List EntS)}{i:Nat}{e:EntS}{t:List EntS}(hk:Goes k a L)(h:L[i]? = some (e::t)) : 0<k∧Goes (k-1) a (L.set i t):=by
 have h1:=tot_set h
 have h2:2*totL L≤k:=by rcases hk with h | h;omega;exact h.1
 exact⟨by omega,Or.inl (by omega)⟩
theorem goes_add {k:Nat}{a:List EntS}{L:List (List EntS)}{e:EntS}(hk:Goes k a L)(h:minL L=some e)(hno:∀ l∈L,∀ x t,l=x::t→a.getLast?≠some x) : 0<k∧Goes (k-1) (a++[e]) L:=by
 have h2:2*totL L+1≤k:=by
  rcases hk with h | ⟨_,l,hl,e',t,ht,he⟩
  ·exact h
  ·exact absurd he (hno l hl e' t ht)
 obtain⟨l,hl,t,ht⟩:=minL_mem h
 exact⟨by omega,Or.inr ⟨by omega,l,hl,e,t,ht,by rw[List.getLast?_append,List.getLast?_singleton];rfl⟩⟩
theorem mem_addE {a:List EntS}{e x:EntS} : x∈addE a e↔x∈a∨x=e:=by
 unfold addE
 split
 ·rename_i h
  constructor
  ·exact Or.inl
  ·rintro (h' | rfl)
   ·exact h'
   ·exact List.mem_of_getLast? h
 ·simp
theorem mem_strip {e x:EntS}{l:List EntS}(h:x∈stripE e l) : x∈l:=(List.dropWhile_sublist _).subset h
theorem mem_strip_or (e:EntS){x:EntS} : ∀ {l:List EntS},x∈l→x=e∨x∈stripE e l
 | [],h=>by cases h
 | y::l,h=>by
   by_cases hy:y=e
   ·subst hy
    rw[strip_cons]
    rcases List.mem_cons.1 h with rfl | h
    ·exact Or.inl rfl
    ·exact mem_strip_or y h
   ·rw[strip_other hy]
    exact Or.inr h
theorem mrgF_mem : ∀ (n:Nat) (a:List EntS) (L:List (List EntS)) (x:EntS),totL L≤n→(x∈mrgF n a L↔x∈a∨∃ l∈L,x∈l)
 | 0,a,L,x,h=>by
   have:=minL_none.1 (tot_zero (L:=L) (by omega))
   rw[mrgF]
   constructor
   ·exact Or.inl
   ·rintro (h | ⟨l,hl,hx⟩)
    ·exact h
    ·rw[this l hl] at hx;cases hx
 | n+1,a,L,x,h=>by
   rw[mrgF]
   cases c:minL L with
   | none =>
     have:=minL_none.1 c
     constructor
     ·exact Or.inl
     ·rintro (h | ⟨l,hl,hx⟩)
      ·exact h
      ·rw[this l hl] at hx;cases hx
   | some e =>
     have h1:=tot_lt e L (minL_mem c)
     show x∈mrgF n (addE a e) (L.map (stripE e))↔_
     rw[mrgF_mem n (addE a e) (L.map (stripE e)) x (by omega),mem_addE]
     constructor
     ·rintro ((h | rfl) | ⟨l,hl,hx⟩)
      ·exact Or.inl h
      ·obtain⟨l,hl,t,rfl⟩:=minL_mem c
       exact Or.inr ⟨_,hl,List.mem_cons_self⟩
      ·obtain⟨m,hm,rfl⟩:=List.mem_map.1 hl
       exact Or.inr ⟨m,hm,mem_strip hx⟩
     ·rintro (h | ⟨l,hl,hx⟩)
      ·exact Or.inl (Or.inl h)
      ·rcases mem_strip_or e hx with h | h
       ·exact Or.inl (Or.inr h)
       ·exact Or.inr ⟨_,List.mem_map_of_mem hl,h⟩
theorem merge_mem {L:List (List EntS)}{x:EntS} : x∈mergeE L↔∃ l∈L,x∈l:=by
 unfold mergeE mrg
 rw[mrgF_mem _ _ _ _ (Nat.le_refl _)]
 simp
theorem rise_snoc {a:List EntS}{e:EntS}(ha:RiseE a)(h:∀ x∈a,lessE x e=true) : RiseE (a++[e]) :=
 List.pairwise_append.2 ⟨ha,List.pairwise_singleton _ _,fun x hx y hy=>by rw[List.mem_singleton.1 hy];exact h x hx⟩
theorem strip_above {e:EntS}{l:List EntS}(hr:RiseE l)(hle:∀ x t,l=x::t→lessE x e=false) : ∀ y∈stripE e l,lessE e y=true:=by
 cases l with
 | nil=>intro y hy;cases hy
 | cons x t =>
   obtain⟨h1,h2⟩:=List.pairwise_cons.1 hr
   by_cases hx:x=e
   ·subst hx
    rw[strip_cons]
    intro y hy
    exact h1 y (mem_strip hy)
   ·rw[strip_other hx]
    have:=lessE_other (hle x t rfl) hx
    intro y hy
    rcases List.mem_cons.1 hy with rfl | hy
    ·exact this
    ·exact lessE_trans this (h1 y hy)
theorem mrgF_rise : ∀ (n:Nat) (a:List EntS) (L:List (List EntS)),RiseE a→(∀ l∈L,RiseE l)→(∀ x∈a,∀ l∈L,∀ y∈l,lessE x y=true)→RiseE (mrgF n a L)
 | 0,a,L,h,_,_=>h
 | n+1,a,L,ha,hL,hal=>by
   rw[mrgF]
   cases c:minL L with
   | none=>exact ha
   | some e =>
     obtain⟨l,hl,t,ht⟩:=minL_mem c
     have he:e∈l:=by rw[ht];exact List.mem_cons_self
     have hae:addE a e=a++[e]:=by
      unfold addE
      rw[if_neg]
      intro h
      have:=hal e (List.mem_of_getLast? h) l hl e he
      rw[lessE_irrefl] at this
      cases this
     show RiseE (mrgF n (addE a e) (L.map (stripE e)))
     rw[hae]
     refine mrgF_rise n _ _ (rise_snoc ha fun x hx=>hal x hx l hl e he) (fun m hm=>?_) (fun x hx m hm y hy=>?_)
     ·obtain⟨k,hk,rfl⟩:=List.mem_map.1 hm
      exact List.Pairwise.sublist (List.dropWhile_sublist _) (hL k hk)
     ·obtain⟨k,hk,rfl⟩:=List.mem_map.1 hm
      rcases List.mem_append.1 hx with hx | hx
      ·exact hal x hx k hk y (mem_strip hy)
      ·rw[List.mem_singleton.1 hx]
       exact strip_above (hL k hk) (fun z u hz=>minL_le c k hk z u hz) y hy
theorem merge_rise {L:List (List EntS)}(h:∀ l∈L,RiseE l) : RiseE (mergeE L):=mrgF_rise _ _ _ List.Pairwise.nil h (fun x hx=>by cases hx)
end
end Go.Proofs.YtcpfkaehefcakaaGreat

/- ZnTxts, ZnPrefix, ZnNamesMath, ZnNamesRef, ZnNamesApi, ZnNamesIs -/
import Derived.Test.YtokbfellcadkpaaGreatPn01
import Derived.Lib.IndexBytes
import Derived.Lib.Hide
import Derived.Test.YtokbfellcadkpaaGreatPn02
import Derived.WalkArith
namespace Go.Proofs.YtokbfellcadkpaaGreat
set_option maxRecDepth 100000
set_option linter.unusedVariables false
section
theorem ctxt_eq {a b:ByteArray}(h:a=b) : (a.toList != b.toList)=false∧(a.toList==b.toList)=true∧(!(a.toList==b.toList))=false:=by subst h;simp
theorem ctxt_ne {a b:ByteArray}(h:¬ a=b) : (a.toList != b.toList)=true∧(a.toList==b.toList)=false∧(!(a.toList==b.toList))=true:=by
 have:¬ a.toList=b.toList:=fun x=>by
  rw[Lib.toList_data,Lib.toList_data] at x;exact h (ByteArray.ext (Array.toList_inj.1 x))
 simpa using this
end
section
open Go.RowKit
def preS (s p:ByteArray) : Bool:=decide (p.size≤s.size∧s.extract 0 p.size=p)
theorem lpre_any (s p:ByteArray)(w:World)(hs:s.size≤maxLen)(hp:p.size≤maxLen) :
  Calls Tryz.prog 184 #[.string s,.string p] w fun e w'=>e = .returned (.bool (preS s p))∧w=w':=by
 unfold maxLen at hs hp;unfold preS;by_cases h:p.size≤s.size
 ·have l1:(p.size:Int)≤(s.size:Int):=by omega
  by_cases hq:s.extract 0 p.size=p
  ·rw[decide_eq_true ⟨h,hq⟩];obtain⟨q1,q2,q3⟩:=ctxt_eq hq;clear hq;go_enter Tryz.func184,Tryz.ntmps184;go_wp2;go_ret;exact⟨rfl,rfl⟩
  ·rw[decide_eq_false (fun h=>hq h.2)];obtain⟨q1,q2,q3⟩:=ctxt_ne hq;clear hq;go_enter Tryz.func184,Tryz.ntmps184;go_wp2;go_ret;exact⟨rfl,rfl⟩
 ·rw[decide_eq_false (fun q=>h q.1)];have l1:decide ((p.size:Int)≤(s.size:Int))=false:=decide_eq_false (by omega);go_enter Tryz.func184,Tryz.ntmps184;go_wp2;go_ret;exact⟨rfl,rfl⟩
theorem pre_any (s p:ByteArray)(w:World)(hs:s.size≤maxLen)(hp:p.size≤maxLen) :
  Calls Tryz.prog 144 #[.string s,.string p] w fun e w'=>e = .returned (.bool (preS s p))∧w=w':=by
 have H:=Lib.hid (lpre_any s p w hs hp);go_enter Tryz.func144,Tryz.ntmps144;go_wp2_with fail;refine(H.out).mono ?_;rintro e w1 ⟨rfl,rfl⟩;go_wp2;go_ret;exact⟨rfl,rfl⟩
theorem dlen (s:ByteArray) : s.data.toList.length=s.size:=Array.length_toList
theorem dbs (l:List UInt8) : (bs l).data.toList=l:=by simp[bs]
theorem bs_self (s:ByteArray) : bs s.data.toList=s:=by
 apply ByteArray.ext;simp[bs]
def de : Nat→Nat→List UInt8
 | 0,_=>[]
 | k+1,n=>UInt8.ofNat (48+n/10 ^ k%10)::de k n
theorem de_length : ∀ k n:Nat,(de k n).length=k
 | 0,_=>rfl
 | k+1,n=>by simp[de,de_length k n]
def isD (c:UInt8) : Bool:=decide (48≤c.toNat∧c.toNat≤57)
def dv (l:List UInt8) : Nat:=l.foldl (fun a c=>a*10+(c.toNat-48)) 0
theorem dv_snoc (l:List UInt8)(c:UInt8) : dv (l++[c])=dv l*10+(c.toNat-48):=by simp[dv]
theorem fold_dv : ∀ (l:List UInt8) (a:Nat),l.foldl (fun a c=>a*10+(c.toNat-48)) a=a*10 ^ l.length+dv l
 | [],a=>by simp[dv]
 | c::l,a=>by
   have h1:=fold_dv l (a*10+(c.toNat-48));have h2:=fold_dv l (0*10+(c.toNat-48));simp only[dv,List.foldl_cons,List.length_cons] at *;rw[h1,h2,Nat.pow_succ];simp only[Nat.add_mul,Nat.zero_mul,Nat.zero_add];rw[Nat.mul_assoc,Nat.mul_comm 10];omega
theorem dv_cons (c:UInt8)(l:List UInt8) : dv (c::l)=(c.toNat-48)*10 ^ l.length+dv l:=by
 have h:=fold_dv l (0*10+(c.toNat-48));simp only[dv,List.foldl_cons] at *;rw[h];simp
theorem dig_nat (d:Nat)(h:d<10) : (UInt8.ofNat (48+d)).toNat=48+d:=by rw[UInt8.toNat_ofNat'];omega
theorem dv_lt : ∀ {l:List UInt8},(∀ c∈l,isD c=true)→dv l<10 ^ l.length
 | [],_=>by decide
 | c::l,h=>by
   have h1:=dv_lt (fun x hx=>h x (List.mem_cons_of_mem _ hx));have hc:=h c (List.mem_cons_self ..);simp only[isD,decide_eq_true_eq] at hc;rw[dv_cons,List.length_cons,Nat.pow_succ];have:(c.toNat-48)*10 ^ l.length≤9*10 ^ l.length:=Nat.mul_le_mul_right _ (by omega);omega
theorem dv_de : ∀ k n:Nat,dv (de k n)=n%10 ^ k
 | 0,n=>by rw[Nat.pow_zero,Nat.mod_one];rfl
 | k+1,n=>by
   have e:(10:Nat) ^ (k+1)=10 ^ k*10:=Nat.pow_succ ..;rw[de,dv_cons,de_length,dv_de k n,dig_nat _ (Nat.mod_lt _ (by decide)),e,Nat.mod_mul,Nat.add_sub_cancel_left,Nat.mul_comm,Nat.add_comm]
theorem de_all : ∀ (k n:Nat) (c:UInt8),c∈de k n→isD c=true
 | 0,n,c,h=>by cases h
 | k+1,n,c,h=>by
   rw[de] at h;rcases List.mem_cons.1 h with rfl | h
   ·have:=Nat.mod_lt (n/10 ^ k) (show 0<10 by decide);unfold isD;rw[dig_nat _ this];exact decide_eq_true (by omega)
   ·exact de_all k n c h
theorem de_dv : ∀ {l:List UInt8},(∀ c∈l,isD c=true)→de l.length (dv l)=l:=by
 intro l hl
 suffices h:∀ (l:List UInt8) (m:Nat),(∀ c∈l,isD c=true)→de l.length (m*10 ^ l.length+dv l)=l by
  have:=h l 0 hl;simpa using this
 intro l
 induction l with
 | nil=>intro m _;rfl
 | cons c l ih =>
   intro m hl;have hd:=dv_lt (l:=l) (fun x hx=>hl x (List.mem_cons_of_mem _ hx));have hc:=hl c (List.mem_cons_self ..);simp only[isD,decide_eq_true_eq] at hc;have hp:0<10 ^ l.length:=Nat.pow_pos (by decide);rw[List.length_cons,de,dv_cons]
   have e:m*10 ^ (l.length+1)+((c.toNat-48)*10 ^ l.length+dv l)=(m*10+(c.toNat-48))*10 ^ l.length+dv l:=by
    rw[Nat.pow_succ,Nat.add_mul,Nat.mul_assoc m 10,Nat.mul_comm 10];omega
   rw[e,ih _ (fun x hx=>hl x (List.mem_cons_of_mem _ hx))]
   have e2:((m*10+(c.toNat-48))*10 ^ l.length+dv l)/10 ^ l.length=m*10+(c.toNat-48):=by
    rw[Nat.mul_comm,Nat.mul_add_div hp,Nat.div_eq_of_lt hd,Nat.add_zero]
   rw[e2];congr 1;apply UInt8.toNat_inj.1;rw[show(m*10+(c.toNat-48))%10=c.toNat-48 by omega,dig_nat _ (by omega)];omega
theorem de_less : ∀ k a b:Nat,Op.bytesLess (de k a) (de k b)=decide (a%10 ^ k<b%10 ^ k)
 | 0,a,b=>by simp[de,Op.bytesLess,Nat.mod_one]
 | k+1,a,b=>by
   have hk:=de_less k a b;have ha:=Nat.mod_lt (a/10 ^ k) (show 0<10 by decide);have hb:=Nat.mod_lt (b/10 ^ k) (show 0<10 by decide);have hp:0<10 ^ k:=Nat.pow_pos (by decide);have la:=Nat.mod_lt a hp;have lb:=Nat.mod_lt b hp;rw[de,de,Op.bytesLess,hk,Nat.pow_succ,Nat.mod_mul,Nat.mod_mul];have da:=dig_nat _ ha;have db:=dig_nat _ hb;generalize a/10 ^ k%10=x at *;generalize b/10 ^ k%10=y at *;generalize a%10 ^ k=p at *;generalize b%10 ^ k=q at *;generalize 10 ^ k=P at *;rw[Bool.eq_iff_iff];simp only[Bool.or_eq_true,Bool.and_eq_true,decide_eq_true_eq,beq_iff_eq];rcases Nat.lt_trichotomy x y with h | h | h
   ·have h2:(x+1)*P≤y*P:=Nat.mul_le_mul_right _ h;rw[Nat.add_mul,Nat.mul_comm x,Nat.mul_comm y] at h2;have hlt:UInt8.ofNat (48+x)<UInt8.ofNat (48+y):=UInt8.lt_iff_toNat_lt.2 (by omega);simp only[hlt,true_or,true_iff];omega
   ·subst h;simp
   ·have h2:(y+1)*P≤x*P:=Nat.mul_le_mul_right _ h;rw[Nat.add_mul,Nat.mul_comm x,Nat.mul_comm y] at h2;have hlt:¬ UInt8.ofNat (48+x)<UInt8.ofNat (48+y):=fun e=>by have:=UInt8.lt_iff_toNat_lt.1 e;omega
    have hne:¬ UInt8.ofNat (48+x)=UInt8.ofNat (48+y):=fun e=>by have:=congrArg UInt8.toNat e;omega
    simp only[hlt,hne,false_and,or_false,false_iff];omega
def nmS (c:UInt8)(n:Int) : ByteArray:=if 0≤n∧n≤999999 then bs (c::de 6 n.toNat) else ByteArray.empty
theorem nm_no {c:UInt8}{n:Int}(h:¬ (0≤n∧n≤999999)) : nmS c n=ByteArray.empty:=by unfold nmS;rw[if_neg h]
theorem nm_yes {c:UInt8}{n:Nat}(h:n≤999999) : nmS c (n:Nat)=bs (c::de 6 n):=by unfold nmS;rw[if_pos (by omega),Int.toNat_natCast]
def isK (c:UInt8) : Bool:=c==99||c==116||c==98
def npOk (s:ByteArray) : Bool:=match s.data.toList with
 | []=>false
 | c::l=>decide (l.length=6)&&isK c&&l.all isD
def npK (s:ByteArray) : Nat:=if npOk s=true then(s.data.toList.headD 0).toNat else 0
def npN (s:ByteArray) : Nat:=if npOk s=true then dv s.data.toList.tail else 0
theorem np_no {s:ByteArray}(h:npOk s=false) : npK s=0∧npN s=0:=by simp[npK,npN,h]
theorem np_yes {s:ByteArray}(h:npOk s=true) : ∃ c l,s=bs (c::l)∧l.length=6∧isK c=true∧(∀ x∈l,isD x=true)∧npK s=c.toNat∧npN s=dv l:=by
 have h':=h;unfold npOk at h;cases hs:s.data.toList with
 | nil=>rw[hs] at h;cases h
 | cons c l =>
   rw[hs] at h;simp only[Bool.and_eq_true,decide_eq_true_eq,List.all_eq_true] at h;refine⟨c,l,by rw[← hs,bs_self],h.1.1,h.1.2,h.2, ?_, ?_⟩
   ·unfold npK;rw[if_pos h',hs];rfl
   ·unfold npN;rw[if_pos h',hs];rfl
theorem np_of (c:UInt8)(l:List UInt8)(hl:l.length=6)(hc:isK c=true)(hd:∀ x∈l,isD x=true) : npOk (bs (c::l))=true∧npK (bs (c::l))=c.toNat∧npN (bs (c::l))=dv l:=by
 have h:npOk (bs (c::l))=true:=by
  unfold npOk;rw[dbs];simp only[Bool.and_eq_true,decide_eq_true_eq,List.all_eq_true];exact⟨⟨hl,hc⟩,hd⟩
 refine⟨h, ?_, ?_⟩
 ·unfold npK;rw[if_pos h,dbs];rfl
 ·unfold npN;rw[if_pos h,dbs];rfl
theorem np_wrong {s:ByteArray}(h:∀ c l,s.data.toList=c::l→¬ (l.length=6∧isK c=true∧∀ x∈l,isD x=true)) : npOk s=false:=by
 cases e:npOk s with
 | false=>rfl
 | true =>
   obtain⟨c,l,hs,h1,h2,h3,_⟩:=np_yes e;exact absurd ⟨h1,h2,h3⟩ (h c l (by rw[hs,dbs]))
theorem np_back {c:UInt8}{n:Nat}(hc:isK c=true)(h:n≤999999) : npOk (nmS c (n:Nat))=true∧npK (nmS c (n:Nat))=c.toNat∧npN (nmS c (n:Nat))=n:=by
 rw[nm_yes h];obtain⟨h1,h2,h3⟩:=np_of c (de 6 n) (de_length _ _) hc (fun x hx=>de_all _ _ _ hx);refine⟨h1,h2, ?_⟩;rw[h3,dv_de];exact Nat.mod_eq_of_lt (by omega)
theorem np_form {s:ByteArray}(h:npOk s=true) : npN s≤999999∧(npK s=99∧nmS 99 (npN s:Nat)=s∨npK s=116∧nmS 116 (npN s:Nat)=s∨npK s=98∧nmS 98 (npN s:Nat)=s):=by
 obtain⟨c,l,hs,hl,hc,hd,hk,hn⟩:=np_yes h;have hlt:=dv_lt hd;rw[hl] at hlt;have hle:npN s≤999999:=by rw[hn];omega
 have hde:=de_dv hd;rw[hl] at hde;have hnm:nmS c (npN s:Nat)=s:=by rw[nm_yes hle,hn,hde,hs]
 refine⟨hle, ?_⟩;simp only[isK,Bool.or_eq_true,beq_iff_eq] at hc;rcases hc with(rfl | rfl) | rfl
 ·exact Or.inl ⟨hk,hnm⟩
 ·exact Or.inr (Or.inl ⟨hk,hnm⟩)
 ·exact Or.inr (Or.inr ⟨hk,hnm⟩)
theorem nm_size {c:UInt8}{n:Nat}(h:n≤999999) : (nmS c (n:Nat)).size=7:=by rw[nm_yes h,bs_size,List.length_cons,de_length]
theorem nm_eq (c:UInt8){m n:Nat}(hm:m≤999999)(hn:n≤999999) : ((nmS c (m:Nat)).toList==(nmS c (n:Nat)).toList)=((m:Int)==(n:Int)):=by
 rw[Bool.eq_iff_iff,beq_iff_eq,beq_iff_eq];constructor
 ·intro h;rw[Lib.toList_data,Lib.toList_data,nm_yes hm,nm_yes hn,dbs,dbs] at h;have h2:=congrArg (fun l=>dv l.tail) h;simp only[List.tail_cons,dv_de] at h2;omega
 ·intro h;have:m=n:=by omega
  rw[this]
theorem byte_of {s:ByteArray}{c:UInt8}{l:List UInt8}(h:s.data.toList=c::l)(j:Nat)(hj:j<l.length)(hs:j+1<s.size) : s[j+1]'hs=l[j]:=by
 have h1:s.data.toList[j+1]'(by rw[dlen];exact hs)=l[j]:=by simp[h]
 exact h1
theorem nm_byte0 {s:ByteArray}{c:UInt8}{l:List UInt8}(h:s.data.toList=c::l)(hs:0<s.size) : s[0]'hs=c:=by
 have h1:s.data.toList[0]'(by rw[dlen];exact hs)=c:=by simp[h]
 exact h1
theorem dv_take {l:List UInt8}{j:Nat}(hj:j<l.length) : dv (l.take (j+1))=dv (l.take j)*10+(l[j].toNat-48):=by
 rw[List.take_add_one,List.getElem?_eq_getElem hj];exact dv_snoc _ _
structure NamesApi : Prop where
 chunk:∀ (n:Int) (w:World),(Lit.int .i64 n).wf=true→Calls Tryz.prog 83 #[.int .i64 n] w fun e w'=>e = .returned (.string (nmS 99 n))∧Below w.heap.size w w'
 table:∀ (n:Int) (w:World),(Lit.int .i64 n).wf=true→Calls Tryz.prog 110 #[.int .i64 n] w fun e w'=>e = .returned (.string (nmS 116 n))∧Below w.heap.size w w'
 bloom:∀ (n:Int) (w:World),(Lit.int .i64 n).wf=true→Calls Tryz.prog 111 #[.int .i64 n] w fun e w'=>e = .returned (.string (nmS 98 n))∧Below w.heap.size w w'
 parse:∀ (s:ByteArray) (w:World),s.size≤maxLen→Calls Tryz.prog 49 #[.string s] w fun e w'=>e = .returned (.tuple #[.int .u8 (npK s:Nat),.int .i64 (npN s:Nat),.bool (npOk s)])∧Below w.heap.size w w'
theorem numbered_no (c:UInt8)(n:Int)(w:World)(h:¬ (0≤n∧n≤999999)) :
  Calls Tryz.prog 148 #[.int .u8 (c.toNat:Nat),.int .i64 n] w fun e w'=>e = .returned (.string ByteArray.empty)∧Below w.heap.size w w':=by
 by_cases h0:n<0
 ·have t1:decide (n<0)=true:=decide_eq_true h0;clear h;go_enter Tryz.func148,Tryz.ntmps148;go_wp2;go_ret;exact⟨rfl,Below.refl _ _⟩
 ·have t1:decide (n<0)=false:=decide_eq_false h0;have t2:decide (999999<n)=true:=decide_eq_true (by omega);clear h;go_enter Tryz.func148,Tryz.ntmps148;go_wp2;go_ret;exact⟨rfl,Below.refl _ _⟩
theorem u8At_set (l:List UInt8)(i:Nat)(b:UInt8)(hi:i<l.length)(j:Nat) : (if j=i then Value.int .u8 ((b.toNat:Nat):Int) else u8At l j)=u8At (l.set i b) j:=by
 unfold u8At;by_cases e:j=i
 ·subst e;rw[if_pos rfl,List.getD_eq_getElem?_getD,List.getElem?_set_self hi];rfl
 ·rw[if_neg e,List.getD_eq_getElem?_getD,List.getD_eq_getElem?_getD,List.getElem?_set_ne (fun h=>e h.symm)]
def nmL (c:UInt8)(k n:Nat) : List UInt8:=c::(List.replicate (6-k) 0++de k n)
theorem nmL_length (c:UInt8)(k n:Nat)(hk:k≤6) : (nmL c k n).length=7:=by simp[nmL,de_length];omega
theorem nmL_set (c:UInt8)(k n:Nat)(hk:k<6) : (nmL c k n).set (6-k) (UInt8.ofNat (48+n/10 ^ k%10))=nmL c (k+1) n:=by
 obtain⟨j,hj⟩:∃ j,6-k=j+1:=⟨5-k,by omega⟩
 have hj2:6-(k+1)=j:=by omega
 have hl:(List.replicate j (0:UInt8)).length=j:=List.length_replicate;unfold nmL;rw[hj,hj2,List.set_cons_succ,de,List.replicate_succ',List.append_assoc,List.set_append_right _ _ (by omega),hl,Nat.sub_self,List.singleton_append,List.set_cons_zero]
set_option maxHeartbeats 800000 in
theorem numbered_yes (c:UInt8)(n:Nat)(w:World)(h:n≤999999) :
  Calls Tryz.prog 148 #[.int .u8 (c.toNat:Nat),.int .i64 (n:Nat)] w fun e w'=>e = .returned (.string (bs (c::de 6 n)))∧Below w.heap.size w w':=by
 have t1:decide ((n:Int)<0)=false:=decide_eq_false (by omega);have t2:decide ((999999:Int)<(n:Int))=false:=decide_eq_false (by omega);go_enter Tryz.func148,Tryz.ntmps148;go_wp2;go_loopw [1,15] (fun m i wr=>∃ k:Nat,k≤6∧i = .int .i64 k∧m = .int .i64 (n/10 ^ k:Nat)∧RowB wr w.heap.size 7 (u8At (nmL c k n))∧Below w.heap.size w wr) (fun _ i _=>6-(intOf i).toNat)
 case atStart =>
  refine⟨0,Nat.zero_le _,rfl,by simp, ?_, ?_⟩
  ·refine⟨_,234,(0,0),(show(w.heap.push _)[w.heap.size]? = _ from Array.getElem?_push_size),Nat.le_refl 7,Or.inl rfl,fun i hi=>?_⟩;have hd:nmL c 0 n=[c,0,0,0,0,0,0]:=rfl;rw[hd]
   match i,hi with
   | 0,_ | 1,_ | 2,_ | 3,_ | 4,_ | 5,_ | 6,_=>rfl
  ·exact(Below.refl _ _).alloc (Nat.le_refl _) _
 case round =>
  obtain⟨k,hk,rfl,rfl,hrow,hbel⟩:=hrel;by_cases hlt:k<6
  ·obtain⟨m,hm⟩:∃ m,n/10 ^ k=m:=⟨_,rfl⟩
   have hm2:n/10 ^ (k+1)=m/10:=by rw[Nat.pow_succ,← Nat.div_div_eq_div_mul,hm]
   have hml:m≤999999:=by rw[← hm];exact Nat.le_trans (Nat.div_le_self _ _) h
   rw[hm];have Hm:=Lib.hid hm2;have hc:=hrow.cell (i:=6-k) (by omega);have hf:=hrow.frozen (i:=6-k) (by omega);have hs:=hrow.set (6-k) (.int .u8 ((UInt8.ofNat (48+m%10)).toNat:Nat));have hs2:=hs.congr (fun j _=>u8At_set _ _ _ (by rw[nmL_length c k n hk];omega) j);rw[← hm,nmL_set c k n hlt,hm,dig_nat _ (Nat.mod_lt _ (by decide))] at hs2;have HS:=Lib.hid hs2;clear hm hm2 hs hs2;clear hrow;go_wp2;go_roundw
   case rel =>
    refine⟨k+1,by omega,by go_num,by rw[Hm.out];go_num, ?_, ?_⟩
    ·exact HS.out
    ·exact hbel.setCell (by simp) _
   case measure=>simp[intOf];omega
  ·obtain rfl:k=6:=by omega
   have hcv:=conv_out hrow (nmL_length c 6 n (Nat.le_refl _)) 7;go_wp2;go_ret;exact⟨rfl,hbel⟩
theorem numbered_any (c:UInt8)(n:Int)(w:World) :
  Calls Tryz.prog 148 #[.int .u8 (c.toNat:Nat),.int .i64 n] w fun e w'=>e = .returned (.string (nmS c n))∧Below w.heap.size w w':=by
 by_cases h:0≤n∧n≤999999
 ·obtain⟨k,rfl⟩:∃ k:Nat,n=k:=⟨n.toNat,by omega⟩
  rw[nm_yes (by omega)];exact numbered_yes c k w (by omega)
 ·rw[nm_no h];exact numbered_no _ n w h
theorem chunk_own (n:Int)(w:World) : Calls Tryz.prog 83 #[.int .i64 n] w fun e w'=>e = .returned (.string (nmS 99 n))∧Below w.heap.size w w':=by
 have h:Calls Tryz.prog 148 #[.int .u8 99,.int .i64 n] w fun e w'=>e = .returned (.string (nmS 99 n))∧Below w.heap.size w w':=numbered_any 99 n w
 generalize nmS 99 n=s at *;have H:=Lib.hid h;clear h;go_enter Tryz.func83,Tryz.ntmps83;go_wp2_with fail;refine(H.out).mono ?_;rintro _ w1 ⟨rfl,hb⟩;go_wp2;go_ret;exact⟨rfl,hb⟩
theorem table_own (n:Int)(w:World) : Calls Tryz.prog 110 #[.int .i64 n] w fun e w'=>e = .returned (.string (nmS 116 n))∧Below w.heap.size w w':=by
 have h:Calls Tryz.prog 148 #[.int .u8 116,.int .i64 n] w fun e w'=>e = .returned (.string (nmS 116 n))∧Below w.heap.size w w':=numbered_any 116 n w
 generalize nmS 116 n=s at *;have H:=Lib.hid h;clear h;go_enter Tryz.func110,Tryz.ntmps110;go_wp2_with fail;refine(H.out).mono ?_;rintro _ w1 ⟨rfl,hb⟩;go_wp2;go_ret;exact⟨rfl,hb⟩
theorem bloom_own (n:Int)(w:World) : Calls Tryz.prog 111 #[.int .i64 n] w fun e w'=>e = .returned (.string (nmS 98 n))∧Below w.heap.size w w':=by
 have h:Calls Tryz.prog 148 #[.int .u8 98,.int .i64 n] w fun e w'=>e = .returned (.string (nmS 98 n))∧Below w.heap.size w w':=numbered_any 98 n w
 generalize nmS 98 n=s at *;have H:=Lib.hid h;clear h;go_enter Tryz.func111,Tryz.ntmps111;go_wp2_with fail;refine(H.out).mono ?_;rintro _ w1 ⟨rfl,hb⟩;go_wp2;go_ret;exact⟨rfl,hb⟩
theorem iskind_any (c:UInt8)(w:World) : Calls Tryz.prog 114 #[.int .u8 (c.toNat:Nat)] w fun e w'=>e = .returned (.bool (isK c))∧w=w':=by
 by_cases e1:c.toNat=99
 ·obtain rfl:c=99:=UInt8.toNat_inj.1 e1;go_enter Tryz.func114,Tryz.ntmps114;go_wp2;go_ret;exact⟨rfl,rfl⟩
 ·by_cases e2:c.toNat=116
  ·obtain rfl:c=116:=UInt8.toNat_inj.1 e2;go_enter Tryz.func114,Tryz.ntmps114;go_wp2;go_ret;exact⟨rfl,rfl⟩
  ·by_cases e3:c.toNat=98
   ·obtain rfl:c=98:=UInt8.toNat_inj.1 e3;go_enter Tryz.func114,Tryz.ntmps114;go_wp2;go_ret;exact⟨rfl,rfl⟩
   ·have hk:isK c=false:=by
     simp only[isK,Bool.or_eq_false_iff,beq_eq_false_iff_ne];exact⟨⟨fun e=>e1 (by rw[e];rfl),fun e=>e2 (by rw[e];rfl)⟩,fun e=>e3 (by rw[e];rfl)⟩
    have v1:((c.toNat:Int)==99)=false:=beq_eq_false_iff_ne.2 (by omega);have v2:((c.toNat:Int)==116)=false:=beq_eq_false_iff_ne.2 (by omega);have v3:((c.toNat:Int)==98)=false:=beq_eq_false_iff_ne.2 (by omega);rw[hk];clear hk e1 e2 e3;go_enter Tryz.func114,Tryz.ntmps114;go_wp2;go_ret;exact⟨rfl,rfl⟩
def NoneParsed (w:World)(e:Ending)(w':World) : Prop:=e = .returned (.tuple #[.int .u8 0,.int .i64 0,.bool false])∧w=w'
theorem parse_size (s:ByteArray)(w:World)(hs:s.size≤maxLen)(h:¬ s.size=7) :
  Calls Tryz.prog 49 #[.string s] w (NoneParsed w):=by
 unfold maxLen at hs;have t1:((s.size:Int) != 7)=true:=by simp;omega
 have t2:((s.size:Int)==7)=false:=beq_eq_false_iff_ne.2 (by omega);clear h;go_enter Tryz.func49,Tryz.ntmps49;go_wp2;go_ret3;exact⟨rfl,rfl⟩
theorem parse_letter (s:ByteArray)(w:World)(hz:0<s.size)(h:s.size=7)(c:UInt8)(hc:s[0]'hz=c)(hk:isK c=false) :
  Calls Tryz.prog 49 #[.string s] w (NoneParsed w):=by
 have t1:((s.size:Int) != 7)=false:=by simp;omega
 have t2:((s.size:Int)==7)=true:=beq_iff_eq.2 (by omega);have hz':(0:Int)<(s.size:Int):=by omega
 have hi:=Lib.hid (iskind_any c);clear h;go_enter Tryz.func49,Tryz.ntmps49;go_wp2_with fail;refine(hi.out w).mono ?_;rintro _ _ ⟨rfl,rfl⟩;rw[hk];go_wp2;go_ret3;exact⟨rfl,rfl⟩
set_option maxHeartbeats 1600000 in
theorem parse_loop (s:ByteArray)(w:World)(hz:0<s.size)(h:s.size=7)(c:UInt8)(l:List UInt8)(hl:s.data.toList=c::l)(hk:isK c=true) :
  Calls Tryz.prog 49 #[.string s] w fun e w'=>e = .returned (.tuple #[.int .u8 (npK s:Nat),.int .i64 (npN s:Nat),.bool (npOk s)])∧w=w':=by
 have t1:((s.size:Int) != 7)=false:=by simp;omega
 have t2:((s.size:Int)==7)=true:=beq_iff_eq.2 (by omega);have hl6:l.length=6:=by have:=dlen s;rw[hl,List.length_cons] at this;omega
 have hc:=nm_byte0 hl hz;have hz':(0:Int)<(s.size:Int):=by omega
 have HB:=Lib.hid fun(j:Nat) (hj:j<l.length)=>(⟨by omega,byte_of hl j hj (by omega)⟩:∃ hs:j+1<s.size,s[j+1]'hs=l[j])
 have Hyes:=Lib.hid fun(hall:∀ x∈l,isD x=true)=>np_of c l hl6 hk hall
 have hbs:bs (c::l)=s:=by rw[← hl,bs_self]
 rw[hbs] at Hyes
 have Hno:=Lib.hid fun(j:Nat) (hj:j<l.length) (hd:isD l[j]=false)=>np_wrong (s:=s) (fun c' l' e=>by
  rw[hl] at e;cases e;rintro ⟨_,_,ha⟩;rw[ha _ (List.getElem_mem hj)] at hd;cases hd)
 have Hd:=Lib.hid fun(j:Nat) (hj:j≤l.length) (hall:∀ i (hi:i<l.length),i<j→isD l[i]=true)=>(by
  have h1:=dv_lt (l:=l.take j) (fun x hx=>by
   obtain⟨i,hi⟩:=List.getElem?_of_mem hx;rw[List.getElem?_take] at hi;by_cases hij:i<j
   ·rw[if_pos hij] at hi;obtain⟨hlt,e⟩:=List.getElem?_eq_some_iff.1 hi;rw[← e];exact hall i hlt hij
   ·rw[if_neg hij] at hi;cases hi)
  rw[List.length_take] at h1;have:10 ^ min j l.length≤10 ^ 6:=Nat.pow_le_pow_right (by decide) (by omega);omega:dv (l.take j)≤999999)
 obtain⟨K,hK⟩:∃ K,npK s=K:=⟨_,rfl⟩
 obtain⟨N,hN⟩:∃ N,npN s=N:=⟨_,rfl⟩
 obtain⟨o,ho⟩:∃ o,npOk s=o:=⟨_,rfl⟩
 rw[hK,hN,ho];have HK:=Lib.hid (And.intro hK (And.intro hN ho));have HI:=Lib.hid (iskind_any c);have HK1:=Lib.hid hk;clear h hl hK hN ho hbs hk;go_enter Tryz.func49,Tryz.ntmps49;go_wp2_with fail;refine(HI.out w).mono ?_;rintro _ _ ⟨rfl,rfl⟩;rw[HK1.out];go_wp2;go_loopw [3,16] (fun n i wr=>∃ j:Nat,j≤6∧i = .int .i64 (j:Nat)∧n = .int .i64 (dv (l.take j):Nat)∧(∀ i (hi:i<l.length),i<j→isD l[i]=true)∧w=wr) (fun _ i _=>6-(intOf i).toNat)
 case atStart=>exact⟨0,Nat.zero_le _,rfl,rfl,fun i hi h=>absurd h (by omega),rfl⟩
 case round =>
  obtain⟨j,hj,rfl,rfl,hall,rfl⟩:=hrel;have hdv:=Hd.out j (by omega) hall;have HA:=Lib.hid hall;clear hall;by_cases hlt:j<6
  ·obtain⟨hs1,hs2⟩:=HB.out j (by omega);have hx1:(1+(j:Int)).toNat=j+1:=by omega
   have hs3:(1+(j:Int))<(s.size:Int):=by omega
   have hd256:=(l[j]'(by omega)).toNat_lt;cases hd:isD (l[j]'(by omega)) with
   | false =>
     have hno:=Hno.out j (by omega) hd;obtain⟨x1,x2⟩:=np_no hno;obtain⟨y1,y2,y3⟩:=HK.out;rw[x1] at y1;rw[x2] at y2;rw[hno] at y3;subst y1 y2 y3;simp only[isD,decide_eq_false_iff_not] at hd;have hdd:(l[j]'(by omega)).toNat<48∨57<(l[j]'(by omega)).toNat:=by omega
     generalize l[j]'(by omega)=d at *;clear hd x1 x2 hno;by_cases h48:d.toNat<48
     ·have v1:decide ((d.toNat:Int)<48)=true:=decide_eq_true (by omega);clear hdd;go_wp2;go_ret3;exact⟨rfl,rfl⟩
     ·have v1:decide ((d.toNat:Int)<48)=false:=decide_eq_false (by omega);have v2:decide ((57:Int)<(d.toNat:Int))=true:=decide_eq_true (by omega);clear hdd;go_wp2;go_ret3;exact⟨rfl,rfl⟩
   | true =>
     have HT:=Lib.hid (dv_take (l:=l) (j:=j) (by omega))
     have HN:∀ i (hi:i<l.length),i<j+1→isD l[i]=true:=fun i hi hij=>by
      by_cases e:i=j
      ·subst e;exact hd
      ·exact HA.out i hi (by omega)
     have HN':=Lib.hid HN;simp only[isD,decide_eq_true_eq] at hd;generalize l[j]'(by omega)=d at *;obtain⟨d1,d2⟩:=hd;have v1:decide ((d.toNat:Int)<48)=false:=decide_eq_false (by omega);have v2:decide ((57:Int)<(d.toNat:Int))=false:=decide_eq_false (by omega);generalize dv (l.take j)=m at *;clear HN;go_wp2;go_roundw
     case rel=>exact⟨j+1,by omega,by go_num,by rw[HT.out];go_num,HN'.out,trivial⟩
     case measure=>simp[intOf];omega
  ·obtain rfl:j=6:=by omega
   have hall:∀ x∈l,isD x=true:=fun x hx=>by
    obtain⟨i,hi⟩:=List.getElem?_of_mem hx;obtain⟨hlt',e'⟩:=List.getElem?_eq_some_iff.1 hi;rw[← e'];exact HA.out i hlt' (by omega)
   obtain⟨x1,x2,x3⟩:=Hyes.out hall;obtain⟨y1,y2,y3⟩:=HK.out;rw[x2] at y1;rw[x3] at y2;rw[x1] at y3;have ht:l.take 6=l:=List.take_of_length_le (by omega);rw[ht];subst y1 y2 y3;clear x1 x2 x3 ht hall;go_wp2;go_ret3;exact⟨rfl,rfl⟩
theorem parse_own (s:ByteArray)(w:World)(hs:s.size≤maxLen) :
  Calls Tryz.prog 49 #[.string s] w fun e w'=>e = .returned (.tuple #[.int .u8 (npK s:Nat),.int .i64 (npN s:Nat),.bool (npOk s)])∧w=w':=by
 by_cases h7:s.size=7
 ·cases hl:s.data.toList with
  | nil =>
    have:=dlen s;rw[hl,h7] at this;cases this
  | cons c l =>
    cases hk:isK c with
    | true=>exact parse_loop s w (by omega) h7 c l hl hk
    | false =>
      obtain⟨x1,x2⟩:=np_no (np_wrong (s:=s) (fun c' l' e=>by
       rw[hl] at e;cases e;rintro ⟨_,h,_⟩;rw[hk] at h;cases h))
      have x3:=np_wrong (s:=s) (fun c' l' e=>by
       rw[hl] at e;cases e;rintro ⟨_,h,_⟩;rw[hk] at h;cases h)
      rw[x1,x2,x3];exact parse_letter s w (by omega) h7 c (nm_byte0 hl (by omega)) hk
 ·have x3:=np_wrong (s:=s) (fun c' l' e=>by
   rintro ⟨h,_,_⟩;have:=dlen s;rw[e,List.length_cons] at this;omega)
  obtain⟨x1,x2⟩:=np_no x3;rw[x1,x2,x3];exact parse_size s w hs h7
theorem napi : NamesApi where
 chunk:=fun n w _=>chunk_own n w
 table:=fun n w _=>table_own n w
 bloom:=fun n w _=>bloom_own n w
 parse:=fun s w hs=>(parse_own s w hs).mono (by rintro e w' ⟨rfl,rfl⟩;exact⟨rfl,Below.refl _ _⟩)
end
end Go.Proofs.YtokbfellcadkpaaGreat

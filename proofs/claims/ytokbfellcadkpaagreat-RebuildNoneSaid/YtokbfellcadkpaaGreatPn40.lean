/- ZnPgPut -/
import Derived.Test.YtokbfellcadkpaaGreatPn04
import Derived.Test.YtokbfellcadkpaaGreatPn35
import Derived.Test.YtokbfellcadkpaaGreatPn32
import Derived.Test.YtokbfellcadkpaaGreatPn03
import Derived.Lib.Hide
namespace Go.Proofs.YtokbfellcadkpaaGreat
set_option maxRecDepth 100000
set_option linter.unusedVariables false
section
open Go.RowKit
theorem pmay_any (n p:Int)(w:World) :
  Calls Tryz.prog 234 #[.int .i64 n,.int .i64 p] w fun e w'=>e = .returned (.bool (pgOk n p))∧w=w':=by
 have hiff:=@pgOk_iff n p;generalize pgOk n p=q at *;by_cases h1:n<1
 ·obtain rfl:q=false:=Bool.eq_false_iff.2 (fun e=>by have:=hiff.1 e;omega);go_enter Tryz.func234,Tryz.ntmps234;go_wp2;go_ret;exact⟨rfl,rfl⟩
 ·by_cases h2:120000<n
  ·obtain rfl:q=false:=Bool.eq_false_iff.2 (fun e=>by have:=hiff.1 e;omega);go_enter Tryz.func234,Tryz.ntmps234;go_wp2;go_ret;exact⟨rfl,rfl⟩
  ·have d1:decide (n<1)=false:=decide_eq_false h1;have d2:decide (120000<n)=false:=decide_eq_false h2;have h3:¬ n<0:=by omega
   have h0:0≤n:=by omega
   by_cases hr:n%60=0
   ·have e1:(n%60 != 0)=false:=by rw[hr];rfl
    have e2:(n.tmod 60 != 0)=false:=by rw[Int.tmod_eq_emod_of_nonneg h0];exact e1
    by_cases hp1:1≤p
    ·have d3:decide (1≤p)=true:=decide_eq_true hp1;by_cases hp2:p≤16
     ·obtain rfl:q=true:=hiff.2 (by omega);have d4:decide (p≤16)=true:=decide_eq_true hp2;clear hiff;go_enter Tryz.func234,Tryz.ntmps234;go_wp2;go_ret;exact⟨rfl,rfl⟩
     ·obtain rfl:q=false:=Bool.eq_false_iff.2 (fun e=>by have:=hiff.1 e;omega);have d4:decide (p≤16)=false:=decide_eq_false hp2;clear hiff;go_enter Tryz.func234,Tryz.ntmps234;go_wp2;go_ret;exact⟨rfl,rfl⟩
    ·obtain rfl:q=false:=Bool.eq_false_iff.2 (fun e=>by have:=hiff.1 e;omega);have d3:decide (1≤p)=false:=decide_eq_false hp1;clear hiff;go_enter Tryz.func234,Tryz.ntmps234;go_wp2;go_ret;exact⟨rfl,rfl⟩
   ·obtain rfl:q=false:=Bool.eq_false_iff.2 (fun e=>by have:=hiff.1 e;omega);have e1:(n%60 != 0)=true:=by rw[bne_iff_ne];exact hr
    have e2:(n.tmod 60 != 0)=true:=by rw[Int.tmod_eq_emod_of_nonneg h0];exact e1
    clear hiff hr;go_enter Tryz.func234,Tryz.ntmps234;go_wp2;go_ret;exact⟨rfl,rfl⟩
theorem zer_list : (⟨(Lib.repeatL (⟨#[0]⟩:ByteArray).data.toList 52).toArray⟩:ByteArray)=bs (List.replicate 52 0):=by decide
set_option maxHeartbeats 1000000 in
theorem phead_any (n p:Nat)(w:World)(hn:n<4294967296)(hp:p<256) :
  Calls Tryz.prog 235 #[.int .i64 (n:Nat),.int .i64 (p:Nat)] w fun e w'=>e = .returned (.string (hdP n p))∧Below w.heap.size w w':=by
 have H1:=Lib.hid fun W=>show Calls Tryz.prog 58 #[.int .u64 (p:Nat),.int .i64 1] W _ from put_some p 1 W (by omega) (by omega) (by omega)
 have H2:=Lib.hid fun W=>show Calls Tryz.prog 58 #[.int .u64 (n:Nat),.int .i64 4] W _ from put_some n 4 W (by omega) (by omega) (by omega)
 have H3:=Lib.hid fun W=>show Calls Tryz.prog 268 #[.string ⟨#[0]⟩,.int .i64 52] W _ from Tryz.rep_any ⟨#[0]⟩ 52 W (by omega) (by decide)
 rw[zer_list] at H3;have z1:(bs (be 1 p)).size=1:=by rw[bs_size,be_length]
 have z2:(bs (be 4 n)).size=4:=by rw[bs_size,be_length]
 have z3:(bs (List.replicate 52 0)).size=52:=by rw[bs_size,List.length_replicate]
 have a1:∀ W:World,(Op.stringOp .add ⟨#[98,108,109]⟩ (bs (be 1 p))).run Tryz.prog W = .ok (.string ((⟨#[98,108,109]⟩:ByteArray)++bs (be 1 p))) W:=fun W=>run_string_add_sum (P:=Tryz.prog) (w:=W) _ _ (by rw[z1];decide)
 have z4:((⟨#[98,108,109]⟩:ByteArray)++bs (be 1 p)).size=4:=by rw[ByteArray.size_append,z1];rfl
 have a2:∀ W:World,(Op.stringOp .add ((⟨#[98,108,109]⟩:ByteArray)++bs (be 1 p)) (bs (be 4 n))).run Tryz.prog W = .ok (.string ((⟨#[98,108,109]⟩:ByteArray)++bs (be 1 p)++bs (be 4 n))) W:=fun W=>run_string_add_sum (P:=Tryz.prog) (w:=W) _ _ (by rw[z4,z2];decide)
 have z5:((⟨#[98,108,109]⟩:ByteArray)++bs (be 1 p)++bs (be 4 n)).size=8:=by rw[ByteArray.size_append,z4,z2]
 have e5:(⟨#[98,108,109]⟩:ByteArray)++bs (be 1 p)++bs (be 4 n)++bs (List.replicate 52 0)=bs (hdL n p):=by
  have e0:(⟨#[98,108,109]⟩:ByteArray)=bs [98,108,109]:=rfl;have e1:be 1 p=[UInt8.ofNat p]:=by simp[be]
  rw[e0,e1,bs_append,bs_append,bs_append];unfold hdL;simp
 have a3:∀ W:World,(Op.stringOp .add ((⟨#[98,108,109]⟩:ByteArray)++bs (be 1 p)++bs (be 4 n)) (bs (List.replicate 52 0))).run Tryz.prog W = .ok (.string (bs (hdL n p))) W:=fun W=>by rw[← e5];exact run_string_add_sum (P:=Tryz.prog) (w:=W) _ _ (by rw[z5,z3];decide)
 have H4:=Lib.hid fun W=>seal_any (bs (hdL n p)) W (by rw[bs_size,hdL_length];decide)
 have hE:hdP n p=sealS (bs (hdL n p)):=rfl;rw[← hE] at H4;clear e5 hE;generalize hdP n p=R at *;generalize bs (hdL n p)=S60 at *;generalize bs (List.replicate 52 0)=Z at *;generalize (⟨#[98,108,109]⟩:ByteArray)++bs (be 1 p)++bs (be 4 n)=S8 at *;generalize (⟨#[98,108,109]⟩:ByteArray)++bs (be 1 p)=S4 at *;generalize bs (be 1 p)=P1 at *;generalize bs (be 4 n)=N4 at *;have q1:IntKind.u64.wrap ((p:Nat):Int)=(p:Nat):=IntWalk.u64_in _ ⟨by omega,by omega⟩;have q2:IntKind.u64.wrap ((n:Nat):Int)=(n:Nat):=IntWalk.u64_in _ ⟨by omega,by omega⟩;have q3:((S8.size:Nat):Int)=8:=by omega
 have q4:(p:Int)%18446744073709551616=(p:Int):=by omega
 have q5:(n:Int)%18446744073709551616=(n:Int):=by omega
 clear z1 z2 z3 z4 z5;go_enter Tryz.func235,Tryz.ntmps235;go_wp2_with fail;refine(H1.out _).mono ?_;rintro e w1 ⟨rfl,b1⟩;go_wp2_with fail;refine(H2.out _).mono ?_;rintro e w2 ⟨rfl,b2⟩;go_wp2_with fail;refine(H3.out _).mono ?_;rintro e w3 ⟨rfl,b3⟩;go_wp2_with fail;refine(H4.out _).mono ?_;rintro e w4 ⟨rfl,b4⟩;go_wp2;go_ret;exact⟨rfl,bj (bj (bj b1 b2) b3) b4⟩
theorem pput_no (a:ByteArray)(p:Int)(w:World)(h:pgOk a.size p=false) :
  Calls Tryz.prog 204 #[.string a,.int .i64 p] w fun e w'=>e = .returned (.string (putP a p))∧Below w.heap.size w w':=by
 rw[putP_no h];have H1:=Lib.hid fun W=>pmay_any a.size p W
 rw[h] at H1;go_enter Tryz.func204,Tryz.ntmps204;go_wp2_with fail;refine(H1.out _).mono ?_;rintro e w1 ⟨rfl,rfl⟩;go_wp2;go_ret;exact⟨rfl,Below.refl _ _⟩
set_option maxHeartbeats 1000000 in
theorem pput_yes (a:ByteArray)(p m:Nat)(w:World)(h:pgOk a.size p=true)(hm:a.size=60*m)(hm2:m≤2000)(hp:p≤16) :
  Calls Tryz.prog 204 #[.string a,.int .i64 (p:Nat)] w fun e w'=>e = .returned (.string (hdP a.size p++pgs a m))∧Below w.heap.size w w':=by
 have H1:=Lib.hid fun W=>pmay_any a.size p W
 rw[h] at H1;have H2:=Lib.hid fun W=>phead_any a.size p W (by omega) (by omega)
 have HZ:=hdP_size a.size p;have hz:∀ k,k≤m→(pgs a k).size=64*k:=fun k hk=>pgs_size a k (by omega)
 have H3:=Lib.hid fun(k:Nat) (W:World) (hk:k<m)=>seal_any (a.extract (60*k) (60*k+60)) W (by rw[ByteArray.size_extract];unfold maxLen;omega)
 have hs:∀ k,k<m→(sealS (a.extract (60*k) (60*k+60))).size=64:=fun k hk=>by rw[seal_size,ByteArray.size_extract];omega
 have W0:=Wrt.fresh w;have hpg:=Lib.hid (pgs_succ a);have hp0:pgs a 0=ByteArray.empty:=rfl;generalize hdP a.size p=HD at *;have HM:=Lib.hid hm;clear hm h;go_enter Tryz.func204,Tryz.ntmps204;go_wp2_with fail;refine(H1.out _).mono ?_;rintro e w1 ⟨rfl,rfl⟩;go_wp2_with fail;refine(H2.out _).mono ?_;rintro e w1 ⟨rfl,b1⟩;have HW:=Lib.hid ((W0.below b1).write HD (by rw[HZ];decide));clear W0 b1;go_wp2_with fail;refine HW.out.mono ?_;rintro e w2 ⟨rfl,W2⟩;rw[ByteArray.empty_append] at W2;clear HW;have hl:((a.size:Nat):Int)≤120000:=by have:=HM.out;omega
 go_wp2_with fail;go_loopw [6] (fun v wr=>∃ k:Nat,k≤m∧v = .int .i64 ((60*k:Nat):Int)∧Wrt w (HD++pgs a k) wr) (fun v _=>60*m+1-(intOf v).toNat)
 case atStart=>exact⟨0,Nat.zero_le _,rfl,by rw[hp0,ByteArray.append_empty];exact W2⟩
 case round =>
  clear W2 hp0;obtain⟨k,hk,rfl,hWr⟩:=hrel;obtain⟨y,hy⟩:∃ y,60*k=y:=⟨_,rfl⟩
  by_cases hlt:k<m
  ·have H3k:=Lib.hid fun W=>H3.out k W hlt
   have hsk:=hs k hlt;have hp1:=hpg.out k;have hzk:=hz k hk;rw[hy] at H3k hsk hp1;generalize sealS (a.extract y (y+60))=SP at *;generalize pgs a k=PK at *;have s1:(y:Int)<(a.size:Int):=by have:=HM.out;omega
   have s2:(y:Int)+60≤(a.size:Int):=by have:=HM.out;omega
   rw[hy];have HY:=Lib.hid hy;clear hy hs hz;go_wp2_with fail;refine(H3k.out _).mono ?_;rintro e w3 ⟨rfl,b3⟩;have HW:=Lib.hid ((hWr.below b3).write SP (by rw[ByteArray.size_append];omega));go_wp2_with fail;refine HW.out.mono ?_;rintro e w4 ⟨rfl,W4⟩;go_wp2;go_roundw
   case rel=>exact⟨k+1,hlt,by rw[show 60*(k+1)=y+60 by have:=HY.out;omega];go_num,by rw[hp1,← ByteArray.append_assoc];exact W4⟩
   case measure =>
    have:=HY.out;simp[intOf];omega
  ·obtain rfl:k=m:=by omega
   have s1:(a.size:Int)≤(y:Int):=by have:=HM.out;omega
   rw[hy];have HT:=Lib.hid hWr.told;go_wp2_with fail;refine HT.out.mono ?_;rintro e w4 ⟨rfl,b4⟩;go_wp2;go_ret;exact⟨rfl,b4⟩
theorem pput_any (a:ByteArray)(p:Int)(w:World) :
  Calls Tryz.prog 204 #[.string a,.int .i64 p] w fun e w'=>e = .returned (.string (putP a p))∧Below w.heap.size w w':=by
 cases h:pgOk a.size p with
 | false=>exact pput_no a p w h
 | true =>
   obtain⟨g1,g2,g3,g4,g5⟩:=pgOk_iff.1 h;obtain⟨q,rfl⟩:∃ q:Nat,p=q:=⟨p.toNat,by omega⟩
   rw[putP_yes h,Int.toNat_natCast];exact pput_yes a q (a.size/60) w h (by omega) (by omega) (by omega)
end
end Go.Proofs.YtokbfellcadkpaaGreat

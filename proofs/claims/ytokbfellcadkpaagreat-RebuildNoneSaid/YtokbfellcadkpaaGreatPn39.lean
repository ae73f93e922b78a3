/- ZnTbPut -/
import Derived.Test.YtokbfellcadkpaaGreatPn14
import Derived.Test.YtokbfellcadkpaaGreatPn35
import Derived.Test.YtokbfellcadkpaaGreatPn04
namespace Go.Proofs.YtokbfellcadkpaaGreat
set_option maxRecDepth 100000
set_option linter.unusedVariables false
section
open Go.RowKit Go.Shelf
theorem ne_nil_of_24 {H:ByteArray}(hz:H.size=24) : ¬ H.toList=[]∧(H.toList==[])=false:=by
 have:¬ H.toList=[]:=fun e=>by
  have h:H=ByteArray.empty:=ByteArray.ext (Array.toList_inj.1 (by rw[← Lib.toList_data,e];rfl));rw[h] at hz;cases hz
 exact⟨this,beq_eq_false_iff_ne.2 this⟩
def TbEnd (w:World)(l:List EntS)(e:Ending)(w':World) : Prop:=e = .returned (.tuple #[.string (tbS l),.int .i64 (tbE l)])∧Below w.heap.size w w'
theorem tput_no (v:Value)(l:List EntS)(w:World)(hl:EntsIn w v l)(hn:l.length≤40000)(hs:sortedE l=false) :
  Calls Tryz.prog 159 #[v] w (TbEnd w l):=by
 have HS:=sorted_any v l w hl (by omega);rw[hs] at HS;have HS2:=Lib.hid HS;obtain⟨e1,e2⟩:=tb_no (tbOk_sorted hs);unfold TbEnd;rw[e1,e2];clear HS hs hl e1 e2;go_enter Tryz.func159,Tryz.ntmps159;go_wp2_with fail;refine HS2.out.mono ?_;rintro e w1 ⟨rfl,hb1⟩;go_wp2;go_ret2;exact⟨rfl,hb1⟩
set_option maxHeartbeats 4000000 in
set_option maxRecDepth 100000 in
theorem tput_yes (v:Value)(l:List EntS)(w:World)(hl:EntsIn w v l)(hn:l.length≤40000)(hx:∀ x∈l,EntOk x)(hs:sortedE l=true) :
  Calls Tryz.prog 159 #[v] w (TbEnd w l):=by
 have HS:=sorted_any v l w hl (by omega);rw[hs] at HS;obtain⟨A,off,cap,rfl,-,hcell⟩:=hl.form;have HS2:=Lib.hid HS;have HC:=Lib.hid hcell;have HX:=Lib.hid (show ∀ i x,l[i]? = some x→EntOk x from fun i x h=>hx x (List.mem_of_getElem? h));have HY:=Lib.hid (show(∀ x∈l,mayE x=true)→tbS l=sealS (tbBody l)∧tbE l=0 from fun h=>tb_yes (tbOk_iff.2 ⟨hs,h⟩));have HNo:=Lib.hid (show ∀ x∈l,mayE x=false→tbS l=ByteArray.empty∧tbE l=2 from fun x h1 h2=>tb_no (tbOk_may h1 h2));obtain⟨n,hnn⟩:∃ n,n=l.length:=⟨_,rfl⟩
 have HN:=Lib.hid hnn;have HB:Hid (tbBody l=bs (tbHead n++entsL (l.take n))):=Lib.hid (by rw[hnn,List.take_length];rfl);have HZ:=Lib.hid (show(tbBody l).size=8+24*n by rw[hnn];exact tbBody_size l);unfold TbEnd;rw[← hnn] at hn HS2 ⊢;clear hl hcell hx hs HS hnn;generalize tbS l=S at *;generalize tbE l=E at *;generalize tbBody l=T at *;have HP:=Lib.hid fun W=>put_some n 4 W (by omega) (by omega) (by omega)
 have ha:∀ w:World,(Op.stringOp .add ⟨#[112,116,97,98]⟩ (bs (be 4 n))).run Tryz.prog w = .ok (.string (bs (tbHead n))) w:=fun w=>by
  rw[show bs (tbHead n)=⟨#[112,116,97,98]⟩++bs (be 4 n) by unfold tbHead;rw[← bs_append];rfl];exact run_string_add_sum (P:=Tryz.prog) (w:=w) _ _ (by rw[bs_size,be_length];decide)
 have hw:IntKind.u64.wrap (n:Int)=(n:Int):=by rw[IntKind.wrap_u64];omega
 have z0:(bs (tbHead n)).size=8:=by rw[bs_size,tbHead_length]
 have HZK:=Lib.hid (show ∀ k,k≤n→(bs (tbHead n++entsL (l.take k))).size≤8+24*k from fun k hk=>by rw[bs_size,List.length_append,tbHead_length,entsL_length,List.length_take];omega);have HTK:=Lib.hid (show ∀ k x,l[k]? = some x→bs (tbHead n++entsL (l.take k))++bs (putL x)=bs (tbHead n++entsL (l.take (k+1))) from fun k x h=>by rw[bs_append,entsL_take h,List.append_assoc]);have H0:=Lib.hid (show bs (tbHead n)=bs (tbHead n++entsL (l.take 0)) by rw[List.take_zero];unfold entsL;rw[List.flatMap_nil,List.append_nil]);generalize bs (be 4 n)=R at *;generalize bs (tbHead n)=H at *;go_enter Tryz.func159,Tryz.ntmps159;go_wp2_with fail;refine HS2.out.mono ?_;rintro e w1 ⟨rfl,hb1⟩;have W0:=Wrt.fresh w1;go_wp2_with fail;refine(HP.out _).mono ?_;rintro e w2 ⟨rfl,hb2⟩;have W1:=W0.below hb2;have HW:=Lib.hid (W1.write H (by rw[z0];decide));clear hb2 W0 W1 z0;go_wp2_with fail;refine HW.out.mono ?_;rintro e w3 ⟨rfl,W3⟩;rw[ByteArray.empty_append,H0.out] at W3;clear HW hw ha HP HS2;go_wp2;go_loopw [19] (fun i wr=>∃ k:Nat,k≤n∧i = .int .i64 k∧(∀ i x,i<k→l[i]? = some x→mayE x=true)∧Wrt w1 (bs (tbHead n++entsL (l.take k))) wr) (fun i _=>n-(intOf i).toNat)
 case atStart=>exact⟨0,Nat.zero_le _,rfl,fun i x h=>absurd h (by omega),W3⟩
 case round =>
  obtain⟨k,hk,rfl,hall,W4⟩:=hrel;clear W3;have HA:=Lib.hid hall;clear hall;by_cases hlt:k<n
  ·have s1:(k:Int)<(n:Int):=by omega
   obtain⟨x,hxk⟩:∃ x,l[k]? = some x:=⟨_,List.getElem?_eq_getElem (by rw[← HN.out];omega)⟩
   obtain⟨b,rfl,hbk,d0,d1,d2⟩:=HC.out k x hxk;have hbw:=bj hb1 W4.o;have c0:=(hbw.cell (p:=⟨b,off+k*3,none⟩) hbk).trans d0;have c1:=(hbw.cell (p:=⟨b,off+k*3+1,none⟩) hbk).trans d1;have c2:=(hbw.cell (p:=⟨b,off+k*3+2,none⟩) hbk).trans d2;have HE:=fun W=>eput_any x W (HX.out k x hxk)
   have HXK:=Lib.hid hxk;have hz3:=HZK.out k hk;cases hm:mayE x with
   | false =>
     rw[en_put_no hm] at HE;have HE2:=Lib.hid HE;obtain⟨r1,r2⟩:=HNo.out x (List.mem_of_getElem? hxk) hm;have HBW:=Lib.hid (W4.alloc (.cells #[.int .u64 (x.h:Nat),.int .i64 x.v,.int .i64 x.p] 63)).o;clear HE d0 d1 d2 hbk hbw hxk hz3 W4 hm;subst r1;subst r2;obtain⟨xh,xv,xp⟩:=x;simp only at c0 c1 c2;go_wp2_with fail;refine(HE2.out _).mono ?_;rintro e w5 ⟨rfl,hb5⟩;go_wp2;go_ret2;exact⟨rfl,bj hb1 (bj HBW.out hb5)⟩
   | true =>
     have hM:∀ i y,i<k+1→l[i]? = some y→mayE y=true:=fun i y hi hy=>by
      rcases Nat.lt_or_ge i k with c | c
      ·exact HA.out i y c hy
      ·obtain rfl:i=k:=by omega
       rw[hxk] at hy;rw[← Option.some.inj hy];exact hm
     have hz:=putE_size hm;have eT:putE x=bs (putL x):=by rw[← bs_data (putE x),putE_list hm]
     have HTN:=Lib.hid (HTK.out k x hxk);rw[← eT] at HTN;have HMM:=Lib.hid hM;obtain⟨v2,v3⟩:=ne_nil_of_24 hz;have W5:=W4.alloc (.cells #[.int .u64 (x.h:Nat),.int .i64 x.v,.int .i64 x.p] 63);clear hM eT hm d0 d1 d2 hbk hbw hxk W4;generalize putE x=Y at *;have HE2:=Lib.hid HE;clear HE;generalize bs (tbHead n++entsL (l.take k))=Z at *;obtain⟨xh,xv,xp⟩:=x;simp only at c0 c1 c2;go_wp2_with fail;refine(HE2.out _).mono ?_;rintro e w5 ⟨rfl,hb5⟩;have HW:=Lib.hid ((W5.below hb5).write Y (by omega));clear hb5 W5 c0 c1 c2 hz hz3;go_wp2_with fail;refine HW.out.mono ?_;rintro e w6 ⟨rfl,W6⟩;rw[HTN.out] at W6;clear HW HTN;go_wp2;go_roundw
     case rel=>exact⟨k+1,by omega,by go_num,HMM.out,W6⟩
     case measure=>simp[intOf];omega
  ·obtain rfl:k=n:=by omega
   have s1:¬ (k:Int)<(k:Int):=by omega
   obtain⟨r1,r2⟩:=HY.out fun x hx=>by
    obtain⟨i,hi⟩:=List.getElem?_of_mem hx;exact HA.out i x (by have:=(List.getElem?_eq_some_iff.1 hi).1;rw[← HN.out] at this;exact this) hi
   rw[← HB.out] at W4;have HW:=Lib.hid W4.told;have HQ:=Lib.hid fun W=>seal_any T W (by have:=HZ.out;unfold maxLen;omega)
   clear W4 HB;subst r1;subst r2;go_wp2_with fail;refine HW.out.mono ?_;rintro e w6 ⟨rfl,hb6⟩;go_wp2_with fail;refine(HQ.out _).mono ?_;rintro e w7 ⟨rfl,hb7⟩;go_wp2;go_ret2;exact⟨rfl,bj hb1 (bj hb6 hb7)⟩
theorem tput_any (v:Value)(l:List EntS)(w:World)(hl:EntsIn w v l)(hn:l.length≤40000)(hx:∀ x∈l,EntOk x) :
  Calls Tryz.prog 159 #[v] w (TbEnd w l):=by
 cases hs:sortedE l with
 | false=>exact tput_no v l w hl hn hs
 | true=>exact tput_yes v l w hl hn hx hs
end
end Go.Proofs.YtokbfellcadkpaaGreat

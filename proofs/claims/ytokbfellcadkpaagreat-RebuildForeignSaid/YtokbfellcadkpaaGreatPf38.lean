/- ZfBatPutOwn -/
import Derived.Test.YtokbfellcadkpaaGreatPf07
import Derived.Test.YtokbfellcadkpaaGreatPf35
import Derived.Test.YtokbfellcadkpaaGreatPf03
import Derived.RangeFuncNested
import Derived.RangeFuncBound
import Derived.RangeFuncCalls
import Derived.RangeFuncLeaves
import Derived.Shelf.Abstract
import Derived.WalkKit
import Derived.OwnWalkIn
import Derived.TacticsInMore
import Derived.LoopNIn
import Derived.LoopIn
import Derived.Stop.RegionWithIn
namespace Go.Proofs.YtokbfellcadkpaaGreat
open Go.RowKit
set_option linter.unusedVariables false
attribute [local go_sem] run_store_float
theorem bputp_no (s:ByteArray)(f:Int)(v:Value)(l:List RawS)(w:World)(h:BatIn w s f v l)(hc:¬ bchk s f l=0) :
  Calls Tryz.prog 14 #[batV s f v] w fun e w'=>e = .returned (.tuple #[.string ByteArray.empty,.int .i64 (bchk s f l)])∧Below w.heap.size w w':=by
 have Hc:=fun W (hW:Below w.heap.size w W)=>bcheck_any s f v l W (h.below hW)
 obtain⟨A,c,rfl⟩:=h.v.form;have hbel:Below w.heap.size w (w.alloc (.cells #[.string s,.int .i64 f,.slice A l.length c] 53)):=(Below.refl _ _).alloc (Nat.le_refl _) _;have HC:=Lib.hid (Hc _ hbel);unfold batV at HC ⊢;have e1:(bchk s f l != 0)=true:=by simp;exact hc
 have e2:(bchk s f l==0)=false:=by simp;exact hc
 clear hc Hc h;generalize bchk s f l=k at *;go_enter Tryz.func14,Tryz.ntmps14;go_wp2_with fail;refine HC.out.mono ?_;rintro e w1 ⟨rfl,hb1⟩;go_wp2;go_ret2;exact⟨rfl,hbel.trans (hb1.mono (by simp))⟩
set_option maxHeartbeats 4000000 in
set_option maxRecDepth 100000 in
theorem bputp_yes (s:ByteArray)(f:Nat)(p po c:Nat)(l:List RawS)(w:World)(hf:f≤1073741824)(hs:s.size≤32)(hl:l.length≤8)(hev:∀ x∈l,EvOk x)(hp:p<w.heap.size)
  (hC:∀ W,Below w.heap.size w W→Calls Tryz.prog 55 #[batV s (f:Nat) (.slice (some ⟨p,po,none⟩) l.length c)] W fun e w'=>e = .returned (.int .i64 0)∧Below W.heap.size W w')
  (ca:∀ i x,l[i]? = some x→w.cell? ⟨p,po+i*3,none⟩=some (.string x.t)∧w.cell? ⟨p,po+i*3+1,none⟩=some (.string x.d)∧w.cell? ⟨p,po+i*3+2,none⟩=some (.float .f64 x.b)) :
  Calls Tryz.prog 14 #[batV s (f:Nat) (.slice (some ⟨p,po,none⟩) l.length c)] w fun e w'=>e = .returned (.tuple #[.string (batB s f l),.int .i64 0])∧Below w.heap.size w w':=by
 have hbel:Below w.heap.size w (w.alloc (.cells #[.string s,.int .i64 (f:Nat),.slice (some ⟨p,po,none⟩) l.length c] 53)):=(Below.refl _ _).alloc (Nat.le_refl _) _;have HC:=Lib.hid (hC _ hbel);unfold batV at HC ⊢;clear hC;go_enter Tryz.func14,Tryz.ntmps14;go_wp2_with fail;refine HC.out.mono ?_;rintro e w1 ⟨rfl,hb1⟩;have k0:w1.cell? ⟨w.heap.size,0,none⟩=some (.string s):=keep_cell hb1 (by simp) (World.cell?_alloc_at _ _ _ _ rfl);have k1:w1.cell? ⟨w.heap.size,1,none⟩=some (.int .i64 (f:Nat)):=keep_cell hb1 (by simp) (World.cell?_alloc_at _ _ _ _ rfl);have k2:w1.cell? ⟨w.heap.size,2,none⟩=some (.slice (some ⟨p,po,none⟩) l.length c):=keep_cell hb1 (by simp) (World.cell?_alloc_at _ _ _ _ rfl);have hz1:=hb1.size;rw[World.size_alloc] at hz1;have hbw:=hbel.trans (hb1.mono (by simp));clear hb1 hbel HC;have hca:=fun i x hx=>(⟨keep_cell hbw hp (ca i x hx).1,keep_cell hbw hp (ca i x hx).2.1,keep_cell hbw hp (ca i x hx).2.2⟩:w1.cell? ⟨p,po+i*3,none⟩=some (.string x.t)∧w1.cell? ⟨p,po+i*3+1,none⟩=some (.string x.d)∧w1.cell? ⟨p,po+i*3+2,none⟩=some (.float .f64 x.b))
 have hlt1:w.heap.size<w1.heap.size:=by omega
 have hp1:p<w1.heap.size:=by omega
 have W0:=Wrt.fresh w1;have HT:=Lib.hid fun W=>text_yes s W (by omega)
 have hP:∀ W:World,Calls Tryz.prog 58 #[.int .u64 (f:Nat),.int .i64 8] W fun e w'=>e = .returned (.string (bs (be 8 f)))∧Below W.heap.size W w':=fun W=>put_some f 8 W (by omega) (by omega) (by omega)
 have hP1:∀ W:World,Calls Tryz.prog 58 #[.int .u64 (l.length:Nat),.int .i64 1] W fun e w'=>e = .returned (.string (bs (be 1 l.length)))∧Below W.heap.size W w':=fun W=>put_some l.length 1 W (by omega) (by omega) (by omega)
 have HP:=Lib.hid hP;have HP1:=Lib.hid hP1;clear hP hP1 ca;have hm3:IntKind.u64.wrap (f:Int)=(f:Int):=by rw[IntKind.wrap_u64];omega
 have hm4:IntKind.u64.wrap (l.length:Int)=(l.length:Int):=by rw[IntKind.wrap_u64];omega
 have hm5:(f:Int)%18446744073709551616=(f:Int):=by omega
 have hm6:(l.length:Int)%18446744073709551616=(l.length:Int):=by omega
 have z1:(bs (be 2 s.size)++s).size=s.size+2:=by rw[ByteArray.size_append,bs_size,be_length];omega
 have z2:(bs (be 8 f)).size=8:=by rw[bs_size,be_length]
 have z3:(bs (be 1 l.length)).size=1:=by rw[bs_size,be_length]
 have hBe:headB s f l.length=bs (be 2 s.size)++s++bs (be 8 f)++bs (be 1 l.length):=rfl;have hsz:=headB_size s f l.length;have HE:=Lib.hid (show batB s f l=headB s f l.length++evsB l from rfl);generalize headB s f l.length=B at *;generalize bs (be 2 s.size)++s=T at *;generalize bs (be 8 f)=Q at *;generalize bs (be 1 l.length)=R at *;go_wp2_with fail;have j0:=keep_cell W0.o hlt1 k0;refine(HT.out _).mono ?_;rintro e w2 ⟨rfl,hb2⟩;have W1:=W0.below hb2;have HW:=Lib.hid (W1.write T (by simp;omega));clear hb2 W0 j0 W1;go_wp2_with fail;refine HW.out.mono ?_;rintro e w3 ⟨rfl,W3⟩;rw[ByteArray.empty_append] at W3;have j1:=keep_cell W3.o hlt1 k1;clear HW;go_wp2_with fail;refine(HP.out _).mono ?_;rintro e w4 ⟨rfl,hb4⟩;have HW:=Lib.hid ((W3.below hb4).write Q (by omega));clear hb4 W3 j1;go_wp2_with fail;refine HW.out.mono ?_;rintro e w5 ⟨rfl,W5⟩;have j2:=keep_cell W5.o hlt1 k2;clear HW;go_wp2_with fail;refine(HP1.out _).mono ?_;rintro e w6 ⟨rfl,hb6⟩;have HW:=Lib.hid ((W5.below hb6).write R (by rw[ByteArray.size_append];omega));clear hb6 W5 j2;go_wp2_with fail;refine HW.out.mono ?_;rintro e w7 ⟨rfl,W7⟩;rw[← hBe] at W7;have j2:=keep_cell W7.o hlt1 k2;clear HW hBe z1 z2 z3 HP HP1 HT hm3 hm4 hm5 hm6 k0 k1;have Htk:=Lib.hid fun k x h=>take_more l k x h
 have hvs:=fun k (h:k≤l.length)=>evsB_size (l:=l.take k) (fun x hx=>(hev x (List.mem_of_mem_take hx)).c)
 have HV:=Lib.hid hvs;clear hvs;go_wp2;go_loopw [30] (fun i wr=>∃ k:Nat,k≤l.length∧i = .int .i64 k∧Wrt w1 (B++evsB (l.take k)) wr) (fun i _=>l.length-(intOf i).toNat)
 case atStart=>exact⟨0,Nat.zero_le _,rfl,by simpa[evsB] using W7⟩
 case round =>
  obtain⟨k,hk,rfl,W8⟩:=hrel;clear W7 j2;by_cases hlt:k<l.length
  ·obtain⟨x,hx0⟩:∃ x,l[k]? = some x:=⟨l[k],List.getElem?_eq_getElem hlt⟩
   obtain⟨a0,a1,a2⟩:=hca k x hx0;have wx:=hev x (List.mem_of_getElem? hx0);have HB:=Lib.hid fun W=>bytes_yes x.t x.d x.b W wx.b wx.c
   have q0:=keep_cell W8.o hp1 a0;have q1:=keep_cell W8.o hp1 a1;have q2:=keep_cell W8.o hp1 a2;have hn:=Htk.out k x hx0;have hv1:=HV.out k (by omega);rw[List.length_take] at hv1;have hx':evB x.t x.d x.b=evOf x:=rfl
   have hz3:(B++evsB (l.take k)).size+(evOf x).size≤1000000:=by
    rw[ByteArray.size_append];have h1:=evB_size x.t x.d x.b;have h2:=chk_zero.1 (show chk x.t x.d=0 from wx.c);rw[hx'] at h1;omega
   have hsn:B++evsB (l.take k)++evOf x=B++evsB (l.take (k+1)):=by rw[hn,evsB_snoc,ByteArray.append_assoc]
   have HN:=Lib.hid hsn;rw[hx'] at HB;clear hx0 a0 a1 a2 wx hca hev hn hv1 hsn hx' HV Htk;generalize B++evsB (l.take k)=Z at *;generalize evOf x=E at *;obtain⟨t,d,n⟩:=x;simp only at q0 q1 q2 HB;have s1:(k:Int)<(l.length:Int):=by omega
   have W9:=W8.alloc (.cells #[.string t,.string d,.float .f64 n] 55);go_wp2_with fail;refine(HB.out _).mono ?_;rintro e w8 ⟨rfl,hb8⟩;have HW:=Lib.hid ((W9.below hb8).write E hz3);clear hb8 W9 W8 q0 q1 q2;go_wp2_with fail;refine HW.out.mono ?_;rintro e w9 ⟨rfl,W9⟩;rw[HN.out] at W9;clear HW;go_wp2;go_roundw
   case rel=>exact⟨k+1,by omega,by go_num,W9⟩
   case measure=>simp[intOf];omega
  ·obtain rfl:k=l.length:=by omega
   have s1:¬ (l.length:Int)<(l.length:Int):=by omega
   rw[List.take_length,← HE.out] at W8;have HW:=Lib.hid W8.told;clear W8;go_wp2_with fail;refine HW.out.mono ?_;rintro e w9 ⟨rfl,hb9⟩;go_wp2;go_ret2;exact⟨rfl,hbw.trans (hb9.mono hbw.size)⟩
theorem bput_any (s:ByteArray)(f:Int)(v:Value)(l:List RawS)(w:World)(h:BatIn w s f v l) :
  Calls Tryz.prog 14 #[batV s f v] w fun e w'=>e = .returned (.tuple #[.string (batS s f l),.int .i64 (bchk s f l)])∧Below w.heap.size w w':=by
 unfold batS;by_cases hc:bchk s f l=0
 ·rw[if_pos hc,hc];obtain⟨h1,h2,h3,h4,h5,h6,h7⟩:=bchk_zero.1 hc;obtain⟨A,c,hv⟩:=h.v.form;subst hv;obtain⟨p,po,rfl,hp,ca⟩:=h.v.pos (by omega);obtain⟨k,rfl⟩:∃ k:Nat,f=k:=⟨f.toNat,by omega⟩
  rw[Int.toNat_natCast];refine bputp_yes s k p po c l w (by omega) h2 h4 (evOk_of hc fun x hx=>(h.x x hx).b) hp (fun W hW=>?_) ca;have:=bcheck_any s k _ l W (h.below hW);rw[hc] at this;exact this
 ·rw[if_neg hc];exact bputp_no s f v l w h hc
end Go.Proofs.YtokbfellcadkpaaGreat

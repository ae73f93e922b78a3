/- ZnMfPut0, ZnMfPut, ZnMfGet -/
import Derived.Test.YtokbfellcadkpaaGreatPn18
import Derived.Test.YtokbfellcadkpaaGreatPn35
import Derived.Test.YtokbfellcadkpaaGreatPn04
import Derived.Deep.RegionHeld3
import Derived.Deep.LoopGhost
import Derived.WalkMore
import Derived.Test.YtokbfellcadkpaaGreatPn08
namespace Go.Proofs.YtokbfellcadkpaaGreat
set_option maxRecDepth 100000
set_option linter.unusedVariables false
section
open Go.RowKit Go.Shelf
theorem mput4_any (N:Nat)(w:World)(hN:N<9223372036854775808) :
  Calls Tryz.prog 224 #[.int .i64 (N:Nat)] w fun e w'=>e = .returned (.string (bs (be 4 N)))∧Below w.heap.size w w':=by
 have HP:=Lib.hid fun W=>put_some N 4 W (by omega) (by omega) (by omega)
 have q1:IntKind.u64.wrap ((N:Nat):Int)=(N:Nat):=IntWalk.u64_in _ ⟨by omega,by omega⟩;generalize bs (be 4 N)=R at *;go_enter Tryz.func224,Tryz.ntmps224;go_wp2_with fail;refine(HP.out _).mono ?_;rintro e w1 ⟨rfl,hb1⟩;go_wp2;go_ret;exact⟨rfl,hb1⟩
theorem mput1_any (N:Nat)(w:World)(hN:N<9223372036854775808) :
  Calls Tryz.prog 226 #[.int .i64 (N:Nat)] w fun e w'=>e = .returned (.string (bs (be 1 N)))∧Below w.heap.size w w':=by
 have HP:=Lib.hid fun W=>put_some N 1 W (by omega) (by omega) (by omega)
 have q1:IntKind.u64.wrap ((N:Nat):Int)=(N:Nat):=IntWalk.u64_in _ ⟨by omega,by omega⟩;generalize bs (be 1 N)=R at *;go_enter Tryz.func226,Tryz.ntmps226;go_wp2_with fail;refine(HP.out _).mono ?_;rintro e w1 ⟨rfl,hb1⟩;go_wp2;go_ret;exact⟨rfl,hb1⟩
theorem Wrt.drew {w1 W:World}{s:ByteArray}(h:Wrt w1 s W) : Wrt w1 s W.drew:=⟨h.b.drew,h.o.drew⟩
def MfPutEnd (w:World)(m:ManS)(e:Ending)(w':World) : Prop:=e = .returned (.tuple #[.string (mfS m),.int .i64 (mfE m)])∧Below w.heap.size w w'
theorem mput_no (n c:Int)(d:Nat)(A:Option Addr)(k cp:Nat)(R:LvL)(w:World)(h:LvsHas w (.slice A k cp) R)(hl:R.flatten.length≤100000)(hL:R.length≤100000)(hm:¬ MayM ⟨n,c,d,R⟩) :
  Calls Tryz.prog 193 #[manV n c d (.slice A k cp)] w (MfPutEnd w ⟨n,c,d,R⟩):=by
 have hb:=(Below.refl w.heap.size w).alloc (Nat.le_refl _) (manO n c d (.slice A k cp));have HB:=Lib.hid hb;have HV:=mval_any n c d A k cp R _ (h.below hb (Nat.le_refl _)) hl hL;rw[show mayM ⟨n,c,d,R⟩=false from decide_eq_false hm] at HV;have HV2:=Lib.hid HV;obtain⟨e1,e2⟩:=mf_no hm;unfold MfPutEnd;rw[e1,e2];unfold manV at HV2 ⊢;clear HV h hl hL hb hm e1 e2;go_enter Tryz.func193,Tryz.ntmps193;go_wp2_with fail;refine HV2.out.mono ?_;rintro e w1 ⟨rfl,hb1⟩;go_wp2;go_ret2;exact⟨rfl,bj HB.out hb1⟩
def mfTo (m:ManS)(T:LvL)(j:Nat) : ByteArray:=bs (mfTop m++lvsB (T.take j))
def mfIn (m:ManS)(T:LvL)(j:Nat)(x:List Int)(k:Nat) : ByteArray:=bs (mfTop m++lvsB (T.take j)++be 1 x.length++(x.take k).flatMap u4)
theorem mfTo_zero (m:ManS)(T:LvL) : mfTo m T 0=bs (mfTop m):=by unfold mfTo;rw[List.take_zero];unfold lvsB;rw[List.flatMap_nil,List.append_nil]
theorem mfIn_zero (m:ManS)(T:LvL)(j:Nat)(x:List Int) : mfTo m T j++bs (be 1 x.length)=mfIn m T j x 0:=by unfold mfTo mfIn;rw[bs_append,List.take_zero,List.flatMap_nil,List.append_nil]
theorem mfIn_succ {m:ManS}{T:LvL}{j k:Nat}{x:List Int}{y:Int}(h:x[k]? = some y) : mfIn m T j x k++bs (be 4 y.toNat)=mfIn m T j x (k+1):=by
 unfold mfIn;rw[bs_append,List.take_add_one,h,List.flatMap_append];simp only[List.append_assoc];congr 4
theorem mfIn_end {m:ManS}{T:LvL}{j:Nat}{x:List Int}(h:T[j]? = some x) : mfIn m T j x x.length=mfTo m T (j+1):=by
 unfold mfIn mfTo;rw[List.take_add_one,h,List.take_length,lvsB_append];show _=bs (mfTop m++(lvsB (T.take j)++lvsB [x]));rw[lvsB_one];unfold lvB;simp only[List.append_assoc]
theorem mfTo_end (m:ManS) : mfTo m (trimL m.lv) (trimL m.lv).length=bs (mfBody m):=by unfold mfTo mfBody;rw[List.take_length]
theorem mf_top (n c d t:Nat) : bs imapL++bs (be 4 n)++bs (be 4 c)++bs (be 8 d)++bs (be 1 t)=bs (imapL++be 4 n++be 4 c++be 8 d++be 1 t):=by rw[bs_append,bs_append,bs_append,bs_append]
theorem lvsB_le {T:LvL}{j:Nat} : (lvsB (T.take j)).length≤(lvsB T).length:=by
 conv=>rhs;rw[← List.take_append_drop j T,lvsB_append,List.length_append]
 omega
theorem mfTo_size {m:ManS}{T:LvL}{j:Nat}(h:(lvsB T).length≤200) : (mfTo m T j).size≤221:=by
 have:=lvsB_le (T:=T) (j:=j);unfold mfTo;rw[bs_size,List.length_append,mfTop_length];omega
theorem mfIn_size {m:ManS}{T:LvL}{j k:Nat}{x:List Int}(h:(lvsB T).length≤200)(hx:x.length≤40) : (mfIn m T j x k).size≤400:=by
 have:=lvsB_le (T:=T) (j:=j);unfold mfIn;rw[bs_size,List.length_append,List.length_append,List.length_append,mfTop_length,be_length,flat4_length,List.length_take];omega
theorem MayM.bytes {m:ManS}(h:MayM m) : (lvsB (trimL m.lv)).length≤200:=by
 obtain⟨h1,h2,-⟩:=h.lv_ok;rw[lvsB_length];omega
set_option maxHeartbeats 1000000 in
theorem mput_yes (n c:Nat)(d:Nat)(A:Option Addr)(k cp:Nat)(R:LvL)(w:World)(h:LvsHas w (.slice A k cp) R)(hk:k=R.length)(hm:MayM ⟨(n:Nat),(c:Nat),d,R⟩)(hd:d<18446744073709551616) :
  Calls Tryz.prog 193 #[manV (n:Nat) (c:Nat) d (.slice A k cp)] w (MfPutEnd w ⟨(n:Nat),(c:Nat),d,R⟩):=by
 have hb:=(Below.refl w.heap.size w).alloc (Nat.le_refl _) (manO (n:Nat) (c:Nat) d (.slice A k cp));have HB:=Lib.hid hb;have h5:=hm.2.2.2.2.1.1;have h40:=hm.2.2.2.2.1.2.1;simp only at h5 h40;have HV:=mval_any (n:Nat) (c:Nat) d A k cp R _ (h.below hb (Nat.le_refl _)) (by omega) (by omega);rw[show mayM ⟨(n:Nat),(c:Nat),d,R⟩=true from decide_eq_true hm] at HV;have HV2:=Lib.hid HV;obtain⟨e1,e2⟩:=mf_yes hm;obtain⟨A3,c3,HT⟩:=mtrimmed_all A k cp R hk (by omega);have HT2:=Lib.hid (fun W (hW:Below w.heap.size w W)=>HT W (h.below hW (Nat.le_refl _)));have hn6:n≤1000000:=by have:=hm.2.1;simp only at this;omega
 have hc6:c≤2147483647:=by have:=hm.2.2.2.1;simp only at this;omega
 have HBY:=Lib.hid hm.bytes;obtain⟨t5,-,tl⟩:=hm.lv_ok;have HTL:=Lib.hid tl;have HE:=Lib.hid (mfTo_end ⟨(n:Nat),(c:Nat),d,R⟩);have HTOP:Hid (bs imapL++bs (be 4 n)++bs (be 4 c)++bs (be 8 d)++bs (be 1 (trimL R).length)=mfTo ⟨(n:Nat),(c:Nat),d,R⟩ (trimL R) 0):=Lib.hid (by rw[mfTo_zero,mf_top];rfl);unfold MfPutEnd;rw[e1,e2];unfold mfB;unfold manV at HV2 ⊢;unfold MTrimEnd at HT2;simp only at HBY HTL HE t5;clear HV h hb hm e1 e2 HT tl;generalize hT:trimL R=T at *;clear hT;obtain⟨t,ht⟩:∃ t,t=T.length:=⟨_,rfl⟩
 have HTN:=Lib.hid ht;rw[← ht] at HT2 HE HTOP t5;clear ht;have HZ:=Lib.hid (show(mfTo ⟨(n:Nat),(c:Nat),d,R⟩ T t).size≤221 from mfTo_size HBY.out);generalize hM:(⟨(n:Nat),(c:Nat),d,R⟩:ManS)=M at *;clear hM;have HP1:=Lib.hid fun W=>mput4_any n W (by omega)
 have HP2:=Lib.hid fun W=>mput4_any c W (by omega)
 have HP3:Hid (∀ W:World,Calls Tryz.prog 58 #[.int .u64 (d:Nat),.int .i64 8] W fun e w'=>e = .returned (.string (bs (be 8 d)))∧Below W.heap.size W w'):=Lib.hid fun W=>put_some d 8 W (by omega) (by omega) hd
 have HP4:=Lib.hid fun W=>mput1_any t W (by omega)
 have s0:(bs imapL).size=4:=rfl;have s1:(bs (be 4 n)).size=4:=by rw[bs_size,be_length]
 have s2:(bs (be 4 c)).size=4:=by rw[bs_size,be_length]
 have s3:(bs (be 8 d)).size=8:=by rw[bs_size,be_length]
 have s4:(bs (be 1 t)).size=1:=by rw[bs_size,be_length]
 have eI:(⟨#[105,109,97,112]⟩:ByteArray)=bs imapL:=rfl;generalize bs imapL=X0 at *;generalize bs (be 4 n)=X1 at *;generalize bs (be 4 c)=X2 at *;generalize bs (be 8 d)=X3 at *;generalize bs (be 1 t)=X4 at *;have a1:∀ w:World,(Op.stringOp .add ⟨#[105,109,97,112]⟩ X1).run Tryz.prog w = .ok (.string (X0++X1)) w:=fun w=>by rw[eI];exact run_string_add_sum (P:=Tryz.prog) (w:=w) _ _ (by omega)
 have z1:(X0++X1).size=8:=by rw[ByteArray.size_append,s0,s1]
 have a2:∀ w:World,(Op.stringOp .add (X0++X1) X2).run Tryz.prog w = .ok (.string (X0++X1++X2)) w:=fun w=>run_string_add_sum (P:=Tryz.prog) (w:=w) _ _ (by omega)
 have z2:(X0++X1++X2).size=12:=by rw[ByteArray.size_append,z1,s2]
 have a3:∀ w:World,(Op.stringOp .add (X0++X1++X2) X3).run Tryz.prog w = .ok (.string (X0++X1++X2++X3)) w:=fun w=>run_string_add_sum (P:=Tryz.prog) (w:=w) _ _ (by omega)
 have z3:(X0++X1++X2++X3).size=20:=by rw[ByteArray.size_append,z2,s3]
 generalize X0++X1++X2++X3=Y3 at *;generalize X0++X1++X2=Y2 at *;generalize X0++X1=Y1 at *;have g0:(w.alloc (manO (n:Nat) (c:Nat) d (.slice A k cp))).cell? ⟨w.heap.size,0,none⟩=some (.int .i64 (n:Nat)):=World.cell?_alloc_at _ _ _ _ rfl;have g1:(w.alloc (manO (n:Nat) (c:Nat) d (.slice A k cp))).cell? ⟨w.heap.size,1,none⟩=some (.int .i64 (c:Nat)):=World.cell?_alloc_at _ _ _ _ rfl;have g2:(w.alloc (manO (n:Nat) (c:Nat) d (.slice A k cp))).cell? ⟨w.heap.size,2,none⟩=some (.int .u64 (d:Nat)):=World.cell?_alloc_at _ _ _ _ rfl;have g3:(w.alloc (manO (n:Nat) (c:Nat) d (.slice A k cp))).cell? ⟨w.heap.size,3,none⟩=some (.slice A k cp):=World.cell?_alloc_at _ _ _ _ rfl;have G:=Lib.hid (And.intro g0 (And.intro g1 (And.intro g2 g3)));have Z3:=Lib.hid z3;have S4:=Lib.hid s4;have A123:=Lib.hid (And.intro a1 (And.intro a2 a3));clear g0 g1 g2 g3 eI s0 s1 s2 s3 s4 z1 z2 z3 a1 a2 a3 hk h5 h40;go_enter Tryz.func193,Tryz.ntmps193;go_wp2_with fail;refine HV2.out.mono ?_;rintro e w1 ⟨rfl,hb1⟩;rw[World.size_alloc] at hb1;obtain⟨q0,q1,q2,q3⟩:=G.out;have c0:=mcell hb1 (show w.heap.size<w.heap.size+1 by omega) q0;have c1:=mcell hb1 (show w.heap.size<w.heap.size+1 by omega) q1;have c2:=mcell hb1 (show w.heap.size<w.heap.size+1 by omega) q2;have c3':=mcell hb1 (show w.heap.size<w.heap.size+1 by omega) q3;have hz1:=hb1.size;rw[World.size_alloc] at hz1;have hbw:Below w.heap.size w w1:=HB.out.trans (hb1.mono (by simp));have hlt:w.heap.size<w1.heap.size:=by omega
 have HBW:=Lib.hid hbw;clear hb1 q0 q1 q2 q3 G HV2 HB
 have HS:Hid (∀ W,Below w1.heap.size w1 W→Below w1.heap.size w1 W∧W.cell? ⟨w.heap.size,0,none⟩=some (.int .i64 (n:Nat))∧W.cell? ⟨w.heap.size,1,none⟩=some (.int .i64 (c:Nat))∧W.cell? ⟨w.heap.size,2,none⟩=some (.int .u64 (d:Nat))∧W.cell? ⟨w.heap.size,3,none⟩=some (.slice A k cp)) :=
  Lib.hid fun W hW=>⟨hW,mcell hW hlt c0,mcell hW hlt c1,mcell hW hlt c2,mcell hW hlt c3'⟩
 have K1:=Lib.hid fun W (hh:Below w1.heap.size w1 W∧W.cell? ⟨w.heap.size,0,none⟩=some (.int .i64 (n:Nat))∧W.cell? ⟨w.heap.size,1,none⟩=some (.int .i64 (c:Nat))∧W.cell? ⟨w.heap.size,2,none⟩=some (.int .u64 (d:Nat))∧W.cell? ⟨w.heap.size,3,none⟩=some (.slice A k cp)) (hx:Wrt w1 ByteArray.empty W)=>(HP1.out W).mono fun e w' hr=>(⟨hr.1,HS.out w' (hx.below hr.2).o,hx.below hr.2⟩:e=_∧_∧Wrt w1 ByteArray.empty w')
 have K2:=Lib.hid fun W (hh:Below w1.heap.size w1 W∧W.cell? ⟨w.heap.size,0,none⟩=some (.int .i64 (n:Nat))∧W.cell? ⟨w.heap.size,1,none⟩=some (.int .i64 (c:Nat))∧W.cell? ⟨w.heap.size,2,none⟩=some (.int .u64 (d:Nat))∧W.cell? ⟨w.heap.size,3,none⟩=some (.slice A k cp)) (hx:Wrt w1 ByteArray.empty W)=>(HP2.out W).mono fun e w' hr=>(⟨hr.1,HS.out w' (hx.below hr.2).o,hx.below hr.2⟩:e=_∧_∧Wrt w1 ByteArray.empty w')
 have K3:=Lib.hid fun W (hh:Below w1.heap.size w1 W∧W.cell? ⟨w.heap.size,0,none⟩=some (.int .i64 (n:Nat))∧W.cell? ⟨w.heap.size,1,none⟩=some (.int .i64 (c:Nat))∧W.cell? ⟨w.heap.size,2,none⟩=some (.int .u64 (d:Nat))∧W.cell? ⟨w.heap.size,3,none⟩=some (.slice A k cp)) (hx:Wrt w1 ByteArray.empty W)=>(HP3.out W).mono fun e w' hr=>(⟨hr.1,HS.out w' (hx.below hr.2).o,hx.below hr.2⟩:e=_∧_∧Wrt w1 ByteArray.empty w')
 have K4:=Lib.hid fun W (hh:Below w1.heap.size w1 W∧W.cell? ⟨w.heap.size,0,none⟩=some (.int .i64 (n:Nat))∧W.cell? ⟨w.heap.size,1,none⟩=some (.int .i64 (c:Nat))∧W.cell? ⟨w.heap.size,2,none⟩=some (.int .u64 (d:Nat))∧W.cell? ⟨w.heap.size,3,none⟩=some (.slice A k cp)) (hx:Wrt w1 ByteArray.empty W)=>(hx.write Y3 (by rw[Z3.out];decide)).mono fun e w' hr=>(⟨hr.1,HS.out w' hr.2.o,by have h2:=hr.2;rw[ByteArray.empty_append] at h2;exact h2⟩:e=_∧_∧Wrt w1 Y3 w')
 have hx0:=(Wrt.fresh w1).drew;have hs0:=HS.out _ hx0.o;clear c0 c1 c2 c3' HP1 HP2 HP3 hbw;obtain⟨a1,a2,a3⟩:=A123.out;go_upto_region 4 with fail
 go_region_held3 (fun W=>Below w1.heap.size w1 W∧W.cell? ⟨w.heap.size,0,none⟩=some (.int .i64 (n:Nat))∧W.cell? ⟨w.heap.size,1,none⟩=some (.int .i64 (c:Nat))∧W.cell? ⟨w.heap.size,2,none⟩=some (.int .u64 (d:Nat))∧W.cell? ⟨w.heap.size,3,none⟩=some (.slice A k cp))
  (first | (with_reducible assumption) | fail)
  (first
  | (go_at_call 224;((with_reducible refine(K1.out _ (by with_reducible assumption) (by with_reducible assumption)).mono ?_);rintro e w' ⟨rfl,hb,hx⟩))
  | (go_at_call 224;((with_reducible refine(K2.out _ (by with_reducible assumption) (by with_reducible assumption)).mono ?_);rintro e w' ⟨rfl,hb,hx⟩))
  | (go_at_call 58;((with_reducible refine(K3.out _ (by with_reducible assumption) (by with_reducible assumption)).mono ?_);rintro e w' ⟨rfl,hb,hx⟩))
  | (go_at_call 56;((with_reducible refine(K4.out _ (by with_reducible assumption) (by with_reducible assumption)).mono ?_);rintro e w' ⟨rfl,hb,hx⟩))
  | fail)
 have HX:=Lib.hid hx;obtain⟨-,-,-,-,c3'⟩:=hb;have HTC:=Lib.hid (HT2.out w' (bj HBW.out hx.o)).1;have hform:=(HT2.out w1 HBW.out).2.form;obtain⟨A9,off,cap9,ev,-,hc⟩:=hform;rw[← HTN.out] at ev;obtain⟨rfl,-,rfl⟩:=Value.slice.inj ev;have HC:=Lib.hid hc;have z4:=S4.out;have z3:=Z3.out;have HQ:=Lib.hid fun W=>seal_any (bs (mfBody M)) W (by have:=HZ.out;rw[HE.out] at this;unfold maxLen;omega)
 have Z0:=Lib.hid (show Y3.size+X4.size≤1000000 by omega);have hHP1:=fun(x:Int) (h0:0≤x) (h1:x<4294967296) W=>mput4_any x.toNat W (by omega)
 clear K1 K2 K3 K4 hs0 hx0 hx HT2 ev hc z3 z4 a1 a2 a3 A123 Z3 S4 HS;go_wp2_with fail;refine HTC.out.mono ?_;rintro e w5 ⟨rfl,rfl⟩;go_wp2_with fail;refine(HP4.out _).mono ?_;rintro e w6 ⟨rfl,hb6⟩;have HW:=Lib.hid ((HX.out.below hb6).write X4 Z0.out);clear hb6;go_wp2_with fail;refine HW.out.mono ?_;rintro e w7 ⟨rfl,W7⟩;rw[HTOP.out] at W7;clear HW HTC HTOP HP4 Z0 c3' HX;go_wp2;go_loopg [35] t (fun g i wr=>∃ j:Nat,j+g=t∧i = .int .i64 j∧Wrt w1 (mfTo M T j) wr)
 case atStart=>exact⟨0,by omega,rfl,W7⟩
 case round =>
  obtain⟨j,hjg,rfl,W8⟩:=hrel;clear W7;have H8:=Lib.hid W8;clear W8;obtain⟨wo,rfl⟩:∃ wo,wo=wr:=⟨_,rfl⟩
  cases gk with
  | zero =>
    obtain rfl:j=t:=by omega
    have l1:¬ (j:Int)<(j:Int):=by omega
    have W9:=H8.out;rw[HE.out] at W9;have HW:=Lib.hid W9.told;clear W9 H8;go_wp2_with fail;refine HW.out.mono ?_;rintro e w8 ⟨rfl,hb8⟩;have HB8:=Lib.hid hb8;clear hb8;go_wp2_with fail;refine(HQ.out _).mono ?_;rintro e w9 ⟨rfl,hb9⟩;have HB9:=Lib.hid hb9;clear hb9;go_wp2;go_ret2;exact⟨rfl,bj HBW.out (bj HB8.out HB9.out)⟩
  | succ gi =>
    have hjt:j<t:=by omega
    have l1:(j:Int)<(t:Int):=by omega
    obtain⟨x,hx⟩:∃ x,T[j]? = some x:=⟨_,List.getElem?_eq_getElem (by rw[← HTN.out];exact hjt)⟩
    obtain⟨b,u,rfl,hbl,cu,hin⟩:=HC.out j x hx;have cu2:=mcell H8.out.o hbl cu;obtain⟨A4,o4,c4,rfl,-,hc4⟩:=hin.form;obtain⟨x40,xb⟩:=HTL.out x (List.mem_of_getElem? hx);have HXB:=Lib.hid xb;have HXJ:=Lib.hid hx;have HC4:=Lib.hid hc4;have HI0:=Lib.hid (mfIn_zero M T j x);have HIE:=Lib.hid (mfIn_end (m:=M) hx);have HSZ:=Lib.hid (fun k=>mfIn_size (m:=M) (T:=T) (j:=j) (k:=k) HBY.out x40);have HPM:=Lib.hid (fun W=>mput1_any x.length W (by omega));have hz0:(bs (be 1 x.length)).size=1:=by rw[bs_size,be_length]
    obtain⟨m,hm⟩:∃ m,m=x.length:=⟨_,rfl⟩
    have HM:=Lib.hid hm;rw[← hm] at HI0 HIE HPM cu2 x40 hz0;generalize hB1:bs (be 1 m)=B1 at *;have HZ1:=Lib.hid (show(mfTo M T j).size+B1.size≤1000000 by have:=mfTo_size (m:=M) (j:=j) HBY.out;omega);clear hB1 hx hbl cu hin hc4 xb hm hz0;go_wp2_with fail;refine(HPM.out _).mono ?_;rintro e w8 ⟨rfl,hb8⟩;have HW:=Lib.hid ((H8.out.below hb8).write B1 HZ1.out);clear hb8;go_wp2_with fail;refine HW.out.mono ?_;rintro e w9 ⟨rfl,W9⟩;rw[HI0.out] at W9;clear HW HPM HI0;go_wp2;go_loopg [45] m (fun g i wx=>∃ k:Nat,k+g=m∧i = .int .i64 k∧Wrt w1 (mfIn M T j x k) wx)
    case atStart=>exact⟨0,by omega,rfl,W9⟩
    case round =>
     obtain⟨kk,hkg,rfl,W10⟩:=hrel;have H10:=Lib.hid W10;clear W10 W9;cases gk with
     | zero =>
       obtain rfl:kk=m:=by omega
       have l2:¬ (kk:Int)<(kk:Int):=by omega
       have HR:=H10.out;rw[HIE.out] at HR;have HRR:=Lib.hid HR;clear HR;go_wp2;go_roundg gi
       case measure=>omega
       case rel=>exact⟨j+1,by omega,by go_num,HRR.out⟩
     | succ gj =>
       have hkm:kk<m:=by omega
       have l2:(kk:Int)<(m:Int):=by omega
       obtain⟨y,hy⟩:∃ y,x[kk]? = some y:=⟨_,List.getElem?_eq_getElem (by rw[← HM.out];exact hkm)⟩
       obtain⟨b2,rfl,hb2,cy⟩:=HC4.out kk y hy;obtain⟨y0,y1⟩:=HXB.out y (List.mem_of_getElem? hy);have cy2:=mcell H10.out.o hb2 cy;have HIS:=Lib.hid (mfIn_succ (m:=M) (T:=T) (j:=j) hy);obtain⟨N,rfl⟩:∃ N:Nat,y=(N:Int):=⟨y.toNat,by omega⟩
       have HPY:=Lib.hid (fun W=>mput4_any N W (by omega));rw[Int.toNat_natCast] at HIS;have hz4:(bs (be 4 N)).size=4:=by rw[bs_size,be_length]
       generalize bs (be 4 N)=B4 at *;have HZ4:=Lib.hid (show(mfIn M T j x kk).size+B4.size≤1000000 by have:=HSZ.out kk;omega);clear hy hb2 cy hz4 y0 y1;go_wp2_with fail;refine(HPY.out _).mono ?_;rintro e w11 ⟨rfl,hb11⟩;have HW:=Lib.hid ((H10.out.below hb11).write B4 HZ4.out);clear hb11 cy2;go_wp2_with fail;refine HW.out.mono ?_;rintro e w12 ⟨rfl,W12⟩;rw[HIS.out] at W12;have HR:=Lib.hid W12;clear HW HPY HIS W12;go_wp2;go_roundg gj
       case measure=>omega
       case rel=>exact⟨kk+1,by omega,by go_num,HR.out⟩
theorem mput_any (n c:Int)(d:Nat)(A:Option Addr)(k cp:Nat)(R:LvL)(w:World)(h:LvsHas w (.slice A k cp) R)(hk:k=R.length)(hl:R.flatten.length≤100000)(hL:R.length≤100000)(hd:d<18446744073709551616) :
  Calls Tryz.prog 193 #[manV n c d (.slice A k cp)] w (MfPutEnd w ⟨n,c,d,R⟩):=by
 by_cases hm:MayM ⟨n,c,d,R⟩
 ·obtain⟨N,rfl⟩:∃ N:Nat,n=(N:Int):=⟨n.toNat,by have:=hm.1;simp only at this;omega⟩
  obtain⟨C,rfl⟩:∃ C:Nat,c=(C:Int):=⟨c.toNat,by have:=hm.2.2.1;simp only at this;omega⟩
  exact mput_yes N C d A k cp R w h hk hm hd
 ·exact mput_no n c d A k cp R w h hl hL hm
theorem LvsNew.far {w:World}{base b i:Nat}{v:Value}{R:LvL}(h:LvsNew w base v R)(hb:b<base)(u:Value) : LvsNew (w.setCell ⟨b,i,none⟩ u) base v R:=by
 obtain⟨M,h1,h2,h3⟩:=h;exact⟨M,own_far h1 (fun e=>by have:=LvRow.block h1 b e;omega) u,fun x hx=>own_far (h2 x hx) (fun e=>by have:=(IRow.block (h2 x hx) b e).1;omega) u,h3⟩
theorem mblok_below {w w':World}{g:Nat}{t:TypeId}{cs:Array Value}(h:Blok w g t cs)(hb:Below w.heap.size w w') : Blok w' g t cs:=(hb.block g h.lt).trans h
def MfGetEnd (w:World)(s:ByteArray)(e:Ending)(w':World) : Prop:=∃ (x0 x1:Int) (x2:Nat) (A:Option Addr) (n c:Nat) (R:LvL),e = .returned (.tuple #[manV x0 x1 x2 (.slice A n c),.int .i64 (mgE s)])∧mgM s=⟨x0,x1,x2,R⟩∧n=R.length∧LvsNew w' w.heap.size (.slice A n c) R∧Below w.heap.size w w'∧x2<18446744073709551616∧R.flatten.length≤100000∧R.length≤300
def manSet (w:World)(g:Nat)(a b c d:Value) : World:=(((w.setCell ⟨g,0,none⟩ a).setCell ⟨g,1,none⟩ b).setCell ⟨g,2,none⟩ c).setCell ⟨g,3,none⟩ d
theorem manSet_below {B:Nat}{w W:World}{g:Nat}(h:Below B w W)(hg:B≤g)(a b c d:Value) : Below B w (manSet W g a b c d):=(((h.setCell (p:=⟨g,0,none⟩) hg a).setCell (p:=⟨g,1,none⟩) hg b).setCell (p:=⟨g,2,none⟩) hg c).setCell (p:=⟨g,3,none⟩) hg d
theorem manSet_blok {W:World}{g:Nat}{t:TypeId}{x0 x1 x2 x3:Value}(h:Blok W g t #[x0,x1,x2,x3])(a b c d:Value) : Blok (manSet W g a b c d) g t #[a,b,c,d]:=(((h.put 0 a).put 1 b).put 2 c).put 3 d
theorem LvsNew.manSet {W:World}{base g:Nat}{v:Value}{R:LvL}(h:LvsNew W base v R)(hg:g<base)(a b c d:Value) : LvsNew (manSet W g a b c d) base v R:=(((h.far hg a).far hg b).far hg c).far hg d
set_option maxHeartbeats 1000000 in
theorem mget_any (s:ByteArray)(w:World)(hs:s.size≤1100000) : Calls Tryz.prog 152 #[.string s] w (MfGetEnd w s):=by
 have B0:=Blok.new w 40 #[.int .i64 0,.int .i64 0,.int .u64 0,.slice none 0 0];have hb0:=(Below.refl w.heap.size w).alloc (Nat.le_refl _) (.cells #[.int .i64 0,.int .i64 0,.int .u64 0,.slice none 0 0] 40);have HR:=Lib.hid (mread_any s (w.alloc (.cells #[.int .i64 0,.int .i64 0,.int .u64 0,.slice none 0 0] 40)) hs);have HB0:=Lib.hid hb0;have HBL:=Lib.hid B0;clear hb0 B0;go_enter Tryz.func152,Tryz.ntmps152;go_wp2_with fail;refine HR.out.mono ?_;rintro e w1 ⟨x0,x1,x2,A,n,c,R,rfl,hn,hnew,hb1,hread,hx2,hfl,hL⟩;rw[World.size_alloc] at hnew hb1;have HN:=Lib.hid hn;have HNEW:=Lib.hid hnew;have HB1:=Lib.hid hb1;have HREAD:=Lib.hid hread;have HSZ:=Lib.hid (And.intro hx2 (And.intro hfl hL));have hz1:=hb1.size;rw[World.size_alloc] at hz1;have HBW:=Lib.hid ((HB0.out.trans (hb1.mono (by simp))).alloc (B:=w.heap.size) (by omega) (manO x0 x1 x2 (.slice A n c)));have HP:=Lib.hid (mput_any x0 x1 x2 A n c R (w1.alloc (manO x0 x1 x2 (.slice A n c))) (hnew.has.below ((Below.refl w1.heap.size w1).alloc (Nat.le_refl _) _) (Nat.le_refl _)) hn hfl (by omega) hx2);have HBL1:=Lib.hid ((mblok_below HBL.out (by rw[World.size_alloc];exact hb1)).alloc (manO x0 x1 x2 (.slice A n c)));unfold manV;unfold manV at HP;have hgood:=good_reads hread hx2
 have HNO:Hid (¬ GoodM s→∀ wf,Below w.heap.size w wf→MfGetEnd w s (.returned (.tuple #[manV 0 0 0 (.slice none 0 0),.int .i64 90])) wf):=Lib.hid fun hg wf hB=>by
  obtain⟨r1,r2⟩:=mg_no hg;exact⟨0,0,0,none,0,0,[],by rw[r1],by rw[r2];rfl,rfl,LvsNew.nil _ _,hB,by decide,by decide,by decide⟩
 have HYES:Hid (GoodM s→∀ wf,LvsNew wf w.heap.size (.slice A n c) R→Below w.heap.size w wf→MfGetEnd w s (.returned (.tuple #[manV x0 x1 x2 (.slice A n c),.int .i64 0])) wf):=Lib.hid fun hg wf hN hB=>by
  obtain⟨r1,r2⟩:=mg_yes hg HREAD.out;exact⟨x0,x1,x2,A,n,c,R,by rw[r1],r2,HN.out,hN,hB,HSZ.out.1,HSZ.out.2.1,HSZ.out.2.2⟩
 unfold MfPutEnd at HP;clear hn hnew hb1 hread hx2 hfl hL HR hs;by_cases hm:MayM ⟨x0,x1,x2,R⟩
 case neg =>
  have hg:¬ GoodM s:=fun h=>hm (hgood.1 h).1
  have HNO:=Lib.hid (HNO.out hg);obtain⟨r1,r2⟩:=mf_no hm;rw[r1,r2] at HP;clear hgood HYES hg r1 r2 hm HNEW HB1 HREAD HSZ;go_wp2_with fail;refine HP.out.mono ?_;rintro e w2 ⟨rfl,hb2⟩;rw[World.size_alloc] at hb2;have hD:=mblok_below HBL1.out (by rw[World.size_alloc];exact hb2);have d0:=hD.cell 0;have d1:=hD.cell 1;have d2:=hD.cell 2;have d3:=hD.cell 3;have f0:=hD.frozen 0;have f1:=hD.frozen 1;have f2:=hD.frozen 2;have f3:=hD.frozen 3;simp only[List.getElem?_toArray] at d0 d1 d2 d3;have HBW2:=Lib.hid (HBW.out.trans (hb2.mono (by omega)));have HD:=Lib.hid hD;clear hD hb2 HP;go_wp2;have hM:=manSet_blok HD.out (.int .i64 0) (.int .i64 0) (.int .u64 0) (.slice none 0 0);have hMB:=manSet_below HBW2.out (Nat.le_refl _) (.int .i64 0) (.int .i64 0) (.int .u64 0) (.slice none 0 0);unfold manSet at hM hMB;obtain⟨wf,hwf⟩:∃ wf,wf=(((w2.setCell ⟨w.heap.size,0,none⟩ (.int .i64 0)).setCell ⟨w.heap.size,1,none⟩ (.int .i64 0)).setCell ⟨w.heap.size,2,none⟩ (.int .u64 0)).setCell ⟨w.heap.size,3,none⟩ (.slice none 0 0):=⟨_,rfl⟩
  rw[← hwf] at hM hMB ⊢;have e0:=hM.cell 0;have e1:=hM.cell 1;have e2:=hM.cell 2;have e3:=hM.cell 3;exact bodyPost_ret (v:=.tuple #[manV 0 0 0 (.slice none 0 0),.int .i64 90]) (by simp[results,Tryz.results152,go_sem,e0,e1,e2,e3];rfl) rfl (HNO.out wf hMB)
 obtain⟨r1,r2⟩:=mf_yes hm;rw[r1,r2] at HP;generalize mfB ⟨x0,x1,x2,R⟩=T at *;by_cases he:T=s
 case neg =>
  have hg:¬ GoodM s:=fun h=>he (hgood.1 h).2
  have HNO:=Lib.hid (HNO.out hg);obtain⟨t1,t2,t3⟩:=ctxt_ne he;clear hgood HYES hg r1 r2 hm he HNEW HB1 HREAD HSZ;go_wp2_with fail;refine HP.out.mono ?_;rintro e w2 ⟨rfl,hb2⟩;rw[World.size_alloc] at hb2;have hD:=mblok_below HBL1.out (by rw[World.size_alloc];exact hb2);have d0:=hD.cell 0;have d1:=hD.cell 1;have d2:=hD.cell 2;have d3:=hD.cell 3;have f0:=hD.frozen 0;have f1:=hD.frozen 1;have f2:=hD.frozen 2;have f3:=hD.frozen 3;simp only[List.getElem?_toArray] at d0 d1 d2 d3;have HBW2:=Lib.hid (HBW.out.trans (hb2.mono (by omega)));have HD:=Lib.hid hD;clear hD hb2 HP;go_wp2;have hM:=manSet_blok HD.out (.int .i64 0) (.int .i64 0) (.int .u64 0) (.slice none 0 0);have hMB:=manSet_below HBW2.out (Nat.le_refl _) (.int .i64 0) (.int .i64 0) (.int .u64 0) (.slice none 0 0);unfold manSet at hM hMB;obtain⟨wf,hwf⟩:∃ wf,wf=(((w2.setCell ⟨w.heap.size,0,none⟩ (.int .i64 0)).setCell ⟨w.heap.size,1,none⟩ (.int .i64 0)).setCell ⟨w.heap.size,2,none⟩ (.int .u64 0)).setCell ⟨w.heap.size,3,none⟩ (.slice none 0 0):=⟨_,rfl⟩
  rw[← hwf] at hM hMB ⊢;have e0:=hM.cell 0;have e1:=hM.cell 1;have e2:=hM.cell 2;have e3:=hM.cell 3;exact bodyPost_ret (v:=.tuple #[manV 0 0 0 (.slice none 0 0),.int .i64 90]) (by simp[results,Tryz.results152,go_sem,e0,e1,e2,e3];rfl) rfl (HNO.out wf hMB)
 case pos =>
  have hg:GoodM s:=hgood.2 ⟨hm,he⟩;have HY:=Lib.hid (HYES.out hg);obtain⟨t1,t2,t3⟩:=ctxt_eq he;clear hgood HYES hg r1 r2 hm HREAD HSZ HNO he;go_wp2_with fail;refine HP.out.mono ?_;rintro e w2 ⟨rfl,hb2⟩;rw[World.size_alloc] at hb2;have hD:=mblok_below HBL1.out (by rw[World.size_alloc];exact hb2);have d0:=hD.cell 0;have d1:=hD.cell 1;have d2:=hD.cell 2;have d3:=hD.cell 3;have f0:=hD.frozen 0;have f1:=hD.frozen 1;have f2:=hD.frozen 2;have f3:=hD.frozen 3;simp only[List.getElem?_toArray] at d0 d1 d2 d3;have HBW2:=Lib.hid (HBW.out.trans (hb2.mono (by omega)));have hE:=mblok_below (Blok.new w1 40 #[.int .i64 x0,.int .i64 x1,.int .u64 (x2:Nat),.slice A n c]) (by rw[World.size_alloc];exact hb2);have i0:=hE.cell 0;have i1:=hE.cell 1;have i2:=hE.cell 2;have i3:=hE.cell 3;simp only[List.getElem?_toArray] at i0 i1 i2 i3;have hN2:=HNEW.out.below (((Below.refl w1.heap.size w1).alloc (Nat.le_refl _) (manO x0 x1 x2 (.slice A n c))).trans (hb2.mono (by omega))) (Nat.le_refl _);have HN2:=Lib.hid (hN2.manSet (show w.heap.size<w.heap.size+1 by omega) (.int .i64 x0) (.int .i64 x1) (.int .u64 (x2:Nat)) (.slice A n c));have HD:=Lib.hid hD;clear hD hb2 HP hE hN2;go_wp2;have hM:=manSet_blok HD.out (.int .i64 x0) (.int .i64 x1) (.int .u64 (x2:Nat)) (.slice A n c);have hMB:=manSet_below HBW2.out (Nat.le_refl _) (.int .i64 x0) (.int .i64 x1) (.int .u64 (x2:Nat)) (.slice A n c);have hMN:=HN2.out;unfold manSet at hM hMB hMN;obtain⟨wf,hwf⟩:∃ wf,wf=(((w2.setCell ⟨w.heap.size,0,none⟩ (.int .i64 x0)).setCell ⟨w.heap.size,1,none⟩ (.int .i64 x1)).setCell ⟨w.heap.size,2,none⟩ (.int .u64 (x2:Nat))).setCell ⟨w.heap.size,3,none⟩ (.slice A n c):=⟨_,rfl⟩
  rw[← hwf] at hM hMB hMN ⊢;have e0:=hM.cell 0;have e1:=hM.cell 1;have e2:=hM.cell 2;have e3:=hM.cell 3;exact bodyPost_ret (v:=.tuple #[manV x0 x1 x2 (.slice A n c),.int .i64 0]) (by simp[results,Tryz.results152,go_sem,e0,e1,e2,e3];rfl) rfl (HY.out wf (hMN.down (by omega)) hMB)
end
end Go.Proofs.YtokbfellcadkpaaGreat

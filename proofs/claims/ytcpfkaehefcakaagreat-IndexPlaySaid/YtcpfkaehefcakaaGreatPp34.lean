/- ZpMfPut0, ZpMfPut, ZpMfGet -/
import Derived.Test.YtcpfkaehefcakaaGreatPp19
import Derived.Test.YtcpfkaehefcakaaGreatPp33
import Derived.Test.YtcpfkaehefcakaaGreatPp03
import Derived.Deep.RegionHeld3
import Derived.Deep.LoopGhost
import Derived.WalkMore
import Derived.Test.YtcpfkaehefcakaaGreatPp02
import Derived.Test.YtcpfkaehefcakaaGreatPp18
import Derived.Test.YtcpfkaehefcakaaGreatPp06
namespace Go.Proofs.YtcpfkaehefcakaaGreat
set_option maxRecDepth 100000
set_option linter.unusedVariables false
section
open Go.RowKit Go.Shelf
theorem mput4_any (N:Nat)(w:World)(hN:N<9223372036854775808) :
  Calls Tryz.prog 227 #[.int .i64 (N:Nat)] w fun e w'=>e = .returned (.string (bs (be 4 N)))∧Below w.heap.size w w':=by
 have HP:=Lib.hid fun W=>put_some N 4 W (by omega) (by omega) (by omega)
 have q1:IntKind.u64.wrap ((N:Nat):Int)=(N:Nat):=IntWalk.u64_in _ ⟨by omega,by omega⟩
 generalize bs (be 4 N)=R at *
 go_enter Tryz.func227,Tryz.ntmps227
 go_wp2_with fail
 refine(HP.out _).mono ?_
 rintro e w1 ⟨rfl,hb1⟩
 go_wp2
 go_ret
 exact⟨rfl,hb1⟩
theorem mput1_any (N:Nat)(w:World)(hN:N<9223372036854775808) :
  Calls Tryz.prog 229 #[.int .i64 (N:Nat)] w fun e w'=>e = .returned (.string (bs (be 1 N)))∧Below w.heap.size w w':=by
 have HP:=Lib.hid fun W=>put_some N 1 W (by omega) (by omega) (by omega)
 have q1:IntKind.u64.wrap ((N:Nat):Int)=(N:Nat):=IntWalk.u64_in _ ⟨by omega,by omega⟩
 generalize bs (be 1 N)=R at *
 go_enter Tryz.func229,Tryz.ntmps229
 go_wp2_with fail
 refine(HP.out _).mono ?_
 rintro e w1 ⟨rfl,hb1⟩
 go_wp2
 go_ret
 exact⟨rfl,hb1⟩
theorem Wrt.drew {w1 W:World}{s:ByteArray}(h:Wrt w1 s W) : Wrt w1 s W.drew:=⟨h.b.drew,h.o.drew⟩
def MfPutEnd (w:World)(m:ManS)(e:Ending)(w':World) : Prop:=e = .returned (.tuple #[.string (mfS m),.int .i64 (mfE m)])∧Below w.heap.size w w'
theorem mput_no (n c:Int)(d:Nat)(A:Option Addr)(k cp:Nat)(R:LvL)(w:World)(h:LvsHas w (.slice A k cp) R)(hl:R.flatten.length≤100000)(hL:R.length≤100000)(hm:¬ MayM ⟨n,c,d,R⟩) :
  Calls Tryz.prog 194 #[manV n c d (.slice A k cp)] w (MfPutEnd w ⟨n,c,d,R⟩):=by
 have hb:=(Below.refl w.heap.size w).alloc (Nat.le_refl _) (manO n c d (.slice A k cp))
 have HB:=Lib.hid hb
 have HV:=mval_any n c d A k cp R _ (h.below hb (Nat.le_refl _)) hl hL
 rw[show mayM ⟨n,c,d,R⟩=false from decide_eq_false hm] at HV
 have HV2:=Lib.hid HV
 obtain⟨e1,e2⟩:=mf_no hm
 unfold MfPutEnd
 rw[e1,e2]
 unfold manV at HV2 ⊢
 clear HV h hl hL hb hm e1 e2
 go_enter Tryz.func194,Tryz.ntmps194
 go_wp2_with fail
 refine HV2.out.mono ?_
 rintro e w1 ⟨rfl,hb1⟩
 go_wp2
 go_ret2
 exact⟨rfl,bj HB.out hb1⟩
def mfTo (m:ManS)(T:LvL)(j:Nat) : ByteArray:=bs (mfTop m++lvsB (T.take j))
def mfIn (m:ManS)(T:LvL)(j:Nat)(x:List Int)(k:Nat) : ByteArray:=bs (mfTop m++lvsB (T.take j)++be 1 x.length++(x.take k).flatMap u4)
theorem mfTo_zero (m:ManS)(T:LvL) : mfTo m T 0=bs (mfTop m):=by unfold mfTo;rw[List.take_zero];unfold lvsB;rw[List.flatMap_nil,List.append_nil]
theorem mfIn_zero (m:ManS)(T:LvL)(j:Nat)(x:List Int) : mfTo m T j++bs (be 1 x.length)=mfIn m T j x 0:=by unfold mfTo mfIn;rw[bs_append,List.take_zero,List.flatMap_nil,List.append_nil]
theorem mfIn_succ {m:ManS}{T:LvL}{j k:Nat}{x:List Int}{y:Int}(h:x[k]? = some y) : mfIn m T j x k++bs (be 4 y.toNat)=mfIn m T j x (k+1):=by
 unfold mfIn
 rw[bs_append,List.take_add_one,h,List.flatMap_append]
 simp only[List.append_assoc]
 congr 4
theorem mfIn_end {m:ManS}{T:LvL}{j:Nat}{x:List Int}(h:T[j]? = some x) : mfIn m T j x x.length=mfTo m T (j+1):=by
 unfold mfIn mfTo
 rw[List.take_add_one,h,List.take_length,lvsB_append]
 show _=bs (mfTop m++(lvsB (T.take j)++lvsB [x]))
 rw[lvsB_one]
 unfold lvB
 simp only[List.append_assoc]
theorem mfTo_end (m:ManS) : mfTo m (trimL m.lv) (trimL m.lv).length=bs (mfBody m):=by unfold mfTo mfBody;rw[List.take_length]
theorem mf_top (n c d t:Nat) : bs imapL++bs (be 4 n)++bs (be 4 c)++bs (be 8 d)++bs (be 1 t)=bs (imapL++be 4 n++be 4 c++be 8 d++be 1 t):=by rw[bs_append,bs_append,bs_append,bs_append]
theorem lvsB_le {T:LvL}{j:Nat} : (lvsB (T.take j)).length≤(lvsB T).length:=by
 conv=>rhs;rw[← List.take_append_drop j T,lvsB_append,List.length_append]
 omega
theorem mfTo_size {m:ManS}{T:LvL}{j:Nat}(h:(lvsB T).length≤200) : (mfTo m T j).size≤221:=by
 have:=lvsB_le (T:=T) (j:=j)
 unfold mfTo
 rw[bs_size,List.length_append,mfTop_length]
 omega
theorem mfIn_size {m:ManS}{T:LvL}{j k:Nat}{x:List Int}(h:(lvsB T).length≤200)(hx:x.length≤40) : (mfIn m T j x k).size≤400:=by
 have:=lvsB_le (T:=T) (j:=j)
 unfold mfIn
 rw[bs_size,List.length_append,List.length_append,List.length_append,mfTop_length,be_length,flat4_length,List.length_take]
 omega
theorem MayM.bytes {m:ManS}(h:MayM m) : (lvsB (trimL m.lv)).length≤200:=by
 obtain⟨h1,h2,-⟩:=h.lv_ok
 rw[lvsB_length]
 omega
set_option maxHeartbeats 1000000 in
theorem mput_yes (n c:Nat)(d:Nat)(A:Option Addr)(k cp:Nat)(R:LvL)(w:World)(h:LvsHas w (.slice A k cp) R)(hk:k=R.length)(hm:MayM ⟨(n:Nat),(c:Nat),d,R⟩)(hd:d<18446744073709551616) :
  Calls Tryz.prog 194 #[manV (n:Nat) (c:Nat) d (.slice A k cp)] w (MfPutEnd w ⟨(n:Nat),(c:Nat),d,R⟩):=by
 have hb:=(Below.refl w.heap.size w).alloc (Nat.le_refl _) (manO (n:Nat) (c:Nat) d (.slice A k cp))
 have HB:=Lib.hid hb
 have h5:=hm.2.2.2.2.1.1
 have h40:=hm.2.2.2.2.1.2.1
 simp only at h5 h40
 have HV:=mval_any (n:Nat) (c:Nat) d A k cp R _ (h.below hb (Nat.le_refl _)) (by omega) (by omega)
 rw[show mayM ⟨(n:Nat),(c:Nat),d,R⟩=true from decide_eq_true hm] at HV
 have HV2:=Lib.hid HV
 obtain⟨e1,e2⟩:=mf_yes hm
 obtain⟨A3,c3,HT⟩:=mtrimmed_all A k cp R hk (by omega)
 have HT2:=Lib.hid (fun W (hW:Below w.heap.size w W)=>HT W (h.below hW (Nat.le_refl _)))
 have hn6:n≤1000000:=by have:=hm.2.1;simp only at this;omega
 have hc6:c≤2147483647:=by have:=hm.2.2.2.1;simp only at this;omega
 have HBY:=Lib.hid hm.bytes
 obtain⟨t5,-,tl⟩:=hm.lv_ok
 have HTL:=Lib.hid tl
 have HE:=Lib.hid (mfTo_end ⟨(n:Nat),(c:Nat),d,R⟩)
 have HTOP:Hid (bs imapL++bs (be 4 n)++bs (be 4 c)++bs (be 8 d)++bs (be 1 (trimL R).length)=mfTo ⟨(n:Nat),(c:Nat),d,R⟩ (trimL R) 0):=Lib.hid (by rw[mfTo_zero,mf_top];rfl)
 unfold MfPutEnd
 rw[e1,e2]
 unfold mfB
 unfold manV at HV2 ⊢
 unfold MTrimEnd at HT2
 simp only at HBY HTL HE t5
 clear HV h hb hm e1 e2 HT tl
 generalize hT:trimL R=T at *
 clear hT
 obtain⟨t,ht⟩:∃ t,t=T.length:=⟨_,rfl⟩
 have HTN:=Lib.hid ht
 rw[← ht] at HT2 HE HTOP t5
 clear ht
 have HZ:=Lib.hid (show(mfTo ⟨(n:Nat),(c:Nat),d,R⟩ T t).size≤221 from mfTo_size HBY.out)
 generalize hM:(⟨(n:Nat),(c:Nat),d,R⟩:ManS)=M at *
 clear hM
 have HP1:=Lib.hid fun W=>mput4_any n W (by omega)
 have HP2:=Lib.hid fun W=>mput4_any c W (by omega)
 have HP3:Hid (∀ W:World,Calls Tryz.prog 109 #[.int .u64 (d:Nat),.int .i64 8] W fun e w'=>e = .returned (.string (bs (be 8 d)))∧Below W.heap.size W w'):=Lib.hid fun W=>put_some d 8 W (by omega) (by omega) hd
 have HP4:=Lib.hid fun W=>mput1_any t W (by omega)
 have s0:(bs imapL).size=4:=rfl
 have s1:(bs (be 4 n)).size=4:=by rw[bs_size,be_length]
 have s2:(bs (be 4 c)).size=4:=by rw[bs_size,be_length]
 have s3:(bs (be 8 d)).size=8:=by rw[bs_size,be_length]
 have s4:(bs (be 1 t)).size=1:=by rw[bs_size,be_length]
 have eI:(⟨#[105,109,97,112]⟩:ByteArray)=bs imapL:=rfl
 generalize bs imapL=X0 at *
 generalize bs (be 4 n)=X1 at *
 generalize bs (be 4 c)=X2 at *
 generalize bs (be 8 d)=X3 at *
 generalize bs (be 1 t)=X4 at *
 have a1:∀ w:World,(Op.stringOp .add ⟨#[105,109,97,112]⟩ X1).run Tryz.prog w = .ok (.string (X0++X1)) w:=fun w=>by rw[eI];exact run_string_add_sum (P:=Tryz.prog) (w:=w) _ _ (by omega)
 have z1:(X0++X1).size=8:=by rw[ByteArray.size_append,s0,s1]
 have a2:∀ w:World,(Op.stringOp .add (X0++X1) X2).run Tryz.prog w = .ok (.string (X0++X1++X2)) w:=fun w=>run_string_add_sum (P:=Tryz.prog) (w:=w) _ _ (by omega)
 have z2:(X0++X1++X2).size=12:=by rw[ByteArray.size_append,z1,s2]
 have a3:∀ w:World,(Op.stringOp .add (X0++X1++X2) X3).run Tryz.prog w = .ok (.string (X0++X1++X2++X3)) w:=fun w=>run_string_add_sum (P:=Tryz.prog) (w:=w) _ _ (by omega)
 have z3:(X0++X1++X2++X3).size=20:=by rw[ByteArray.size_append,z2,s3]
 generalize X0++X1++X2++X3=Y3 at *
 generalize X0++X1++X2=Y2 at *
 generalize X0++X1=Y1 at *
 have g0:(w.alloc (manO (n:Nat) (c:Nat) d (.slice A k cp))).cell? ⟨w.heap.size,0,none⟩=some (.int .i64 (n:Nat)):=World.cell?_alloc_at _ _ _ _ rfl
 have g1:(w.alloc (manO (n:Nat) (c:Nat) d (.slice A k cp))).cell? ⟨w.heap.size,1,none⟩=some (.int .i64 (c:Nat)):=World.cell?_alloc_at _ _ _ _ rfl
 have g2:(w.alloc (manO (n:Nat) (c:Nat) d (.slice A k cp))).cell? ⟨w.heap.size,2,none⟩=some (.int .u64 (d:Nat)):=World.cell?_alloc_at _ _ _ _ rfl
 have g3:(w.alloc (manO (n:Nat) (c:Nat) d (.slice A k cp))).cell? ⟨w.heap.size,3,none⟩=some (.slice A k cp):=World.cell?_alloc_at _ _ _ _ rfl
 have G:=Lib.hid (And.intro g0 (And.intro g1 (And.intro g2 g3)))
 have Z3:=Lib.hid z3
 have S4:=Lib.hid s4
 have A123:=Lib.hid (And.intro a1 (And.intro a2 a3))
 clear g0 g1 g2 g3 eI s0 s1 s2 s3 s4 z1 z2 z3 a1 a2 a3 hk h5 h40
 go_enter Tryz.func194,Tryz.ntmps194
 go_wp2_with fail
 refine HV2.out.mono ?_
 rintro e w1 ⟨rfl,hb1⟩
 rw[World.size_alloc] at hb1
 obtain⟨q0,q1,q2,q3⟩:=G.out
 have c0:=mcell hb1 (show w.heap.size<w.heap.size+1 by omega) q0
 have c1:=mcell hb1 (show w.heap.size<w.heap.size+1 by omega) q1
 have c2:=mcell hb1 (show w.heap.size<w.heap.size+1 by omega) q2
 have c3':=mcell hb1 (show w.heap.size<w.heap.size+1 by omega) q3
 have hz1:=hb1.size
 rw[World.size_alloc] at hz1
 have hbw:Below w.heap.size w w1:=HB.out.trans (hb1.mono (by simp))
 have hlt:w.heap.size<w1.heap.size:=by omega
 have HBW:=Lib.hid hbw
 clear hb1 q0 q1 q2 q3 G HV2 HB
 have HS:Hid (∀ W,Below w1.heap.size w1 W→Below w1.heap.size w1 W∧W.cell? ⟨w.heap.size,0,none⟩=some (.int .i64 (n:Nat))∧W.cell? ⟨w.heap.size,1,none⟩=some (.int .i64 (c:Nat))∧W.cell? ⟨w.heap.size,2,none⟩=some (.int .u64 (d:Nat))∧W.cell? ⟨w.heap.size,3,none⟩=some (.slice A k cp)) :=
  Lib.hid fun W hW=>⟨hW,mcell hW hlt c0,mcell hW hlt c1,mcell hW hlt c2,mcell hW hlt c3'⟩
 have K1:=Lib.hid fun W (hh:Below w1.heap.size w1 W∧W.cell? ⟨w.heap.size,0,none⟩=some (.int .i64 (n:Nat))∧W.cell? ⟨w.heap.size,1,none⟩=some (.int .i64 (c:Nat))∧W.cell? ⟨w.heap.size,2,none⟩=some (.int .u64 (d:Nat))∧W.cell? ⟨w.heap.size,3,none⟩=some (.slice A k cp)) (hx:Wrt w1 ByteArray.empty W)=>(HP1.out W).mono fun e w' hr=>(⟨hr.1,HS.out w' (hx.below hr.2).o,hx.below hr.2⟩:e=_∧_∧Wrt w1 ByteArray.empty w')
 have K2:=Lib.hid fun W (hh:Below w1.heap.size w1 W∧W.cell? ⟨w.heap.size,0,none⟩=some (.int .i64 (n:Nat))∧W.cell? ⟨w.heap.size,1,none⟩=some (.int .i64 (c:Nat))∧W.cell? ⟨w.heap.size,2,none⟩=some (.int .u64 (d:Nat))∧W.cell? ⟨w.heap.size,3,none⟩=some (.slice A k cp)) (hx:Wrt w1 ByteArray.empty W)=>(HP2.out W).mono fun e w' hr=>(⟨hr.1,HS.out w' (hx.below hr.2).o,hx.below hr.2⟩:e=_∧_∧Wrt w1 ByteArray.empty w')
 have K3:=Lib.hid fun W (hh:Below w1.heap.size w1 W∧W.cell? ⟨w.heap.size,0,none⟩=some (.int .i64 (n:Nat))∧W.cell? ⟨w.heap.size,1,none⟩=some (.int .i64 (c:Nat))∧W.cell? ⟨w.heap.size,2,none⟩=some (.int .u64 (d:Nat))∧W.cell? ⟨w.heap.size,3,none⟩=some (.slice A k cp)) (hx:Wrt w1 ByteArray.empty W)=>(HP3.out W).mono fun e w' hr=>(⟨hr.1,HS.out w' (hx.below hr.2).o,hx.below hr.2⟩:e=_∧_∧Wrt w1 ByteArray.empty w')
 have K4:=Lib.hid fun W (hh:Below w1.heap.size w1 W∧W.cell? ⟨w.heap.size,0,none⟩=some (.int .i64 (n:Nat))∧W.cell? ⟨w.heap.size,1,none⟩=some (.int .i64 (c:Nat))∧W.cell? ⟨w.heap.size,2,none⟩=some (.int .u64 (d:Nat))∧W.cell? ⟨w.heap.size,3,none⟩=some (.slice A k cp)) (hx:Wrt w1 ByteArray.empty W)=>(hx.write Y3 (by rw[Z3.out];decide)).mono fun e w' hr=>(⟨hr.1,HS.out w' hr.2.o,by have h2:=hr.2;rw[ByteArray.empty_append] at h2;exact h2⟩:e=_∧_∧Wrt w1 Y3 w')
 have hx0:=(Wrt.fresh w1).drew
 have hs0:=HS.out _ hx0.o
 clear c0 c1 c2 c3' HP1 HP2 HP3 hbw
 obtain⟨a1,a2,a3⟩:=A123.out
 go_upto_region 4 with fail
 go_region_held3 (fun W=>Below w1.heap.size w1 W∧W.cell? ⟨w.heap.size,0,none⟩=some (.int .i64 (n:Nat))∧W.cell? ⟨w.heap.size,1,none⟩=some (.int .i64 (c:Nat))∧W.cell? ⟨w.heap.size,2,none⟩=some (.int .u64 (d:Nat))∧W.cell? ⟨w.heap.size,3,none⟩=some (.slice A k cp))
  (first | (with_reducible assumption) | fail)
  (first
  | (go_at_call 227;((with_reducible refine(K1.out _ (by with_reducible assumption) (by with_reducible assumption)).mono ?_);rintro e w' ⟨rfl,hb,hx⟩))
  | (go_at_call 227;((with_reducible refine(K2.out _ (by with_reducible assumption) (by with_reducible assumption)).mono ?_);rintro e w' ⟨rfl,hb,hx⟩))
  | (go_at_call 109;((with_reducible refine(K3.out _ (by with_reducible assumption) (by with_reducible assumption)).mono ?_);rintro e w' ⟨rfl,hb,hx⟩))
  | (go_at_call 186;((with_reducible refine(K4.out _ (by with_reducible assumption) (by with_reducible assumption)).mono ?_);rintro e w' ⟨rfl,hb,hx⟩))
  | fail)
 have HX:=Lib.hid hx
 obtain⟨-,-,-,-,c3'⟩:=hb
 have HTC:=Lib.hid (HT2.out w' (bj HBW.out hx.o)).1
 have hform:=(HT2.out w1 HBW.out).2.form
 obtain⟨A9,off,cap9,ev,-,hc⟩:=hform
 rw[← HTN.out] at ev
 obtain⟨rfl,-,rfl⟩:=Value.slice.inj ev
 have HC:=Lib.hid hc
 have z4:=S4.out
 have z3:=Z3.out
 have HQ:=Lib.hid fun W=>seal_any (bs (mfBody M)) W (by have:=HZ.out;rw[HE.out] at this;unfold maxLen;omega)
 have Z0:=Lib.hid (show Y3.size+X4.size≤1000000 by omega)
 have hHP1:=fun(x:Int) (h0:0≤x) (h1:x<4294967296) W=>mput4_any x.toNat W (by omega)
 clear K1 K2 K3 K4 hs0 hx0 hx HT2 ev hc z3 z4 a1 a2 a3 A123 Z3 S4 HS
 go_wp2_with fail
 refine HTC.out.mono ?_
 rintro e w5 ⟨rfl,rfl⟩
 go_wp2_with fail
 refine(HP4.out _).mono ?_
 rintro e w6 ⟨rfl,hb6⟩
 have HW:=Lib.hid ((HX.out.below hb6).write X4 Z0.out)
 clear hb6
 go_wp2_with fail
 refine HW.out.mono ?_
 rintro e w7 ⟨rfl,W7⟩
 rw[HTOP.out] at W7
 clear HW HTC HTOP HP4 Z0 c3' HX
 go_wp2
 go_loopg [35] t (fun g i wr=>∃ j:Nat,j+g=t∧i = .int .i64 j∧Wrt w1 (mfTo M T j) wr)
 case atStart=>exact⟨0,by omega,rfl,W7⟩
 case round =>
  obtain⟨j,hjg,rfl,W8⟩:=hrel
  clear W7
  have H8:=Lib.hid W8
  clear W8
  obtain⟨wo,rfl⟩:∃ wo,wo=wr:=⟨_,rfl⟩
  cases gk with
  | zero =>
    obtain rfl:j=t:=by omega
    have l1:¬ (j:Int)<(j:Int):=by omega
    have W9:=H8.out
    rw[HE.out] at W9
    have HW:=Lib.hid W9.told
    clear W9 H8
    go_wp2_with fail
    refine HW.out.mono ?_
    rintro e w8 ⟨rfl,hb8⟩
    have HB8:=Lib.hid hb8
    clear hb8
    go_wp2_with fail
    refine(HQ.out _).mono ?_
    rintro e w9 ⟨rfl,hb9⟩
    have HB9:=Lib.hid hb9
    clear hb9
    go_wp2
    go_ret2
    exact⟨rfl,bj HBW.out (bj HB8.out HB9.out)⟩
  | succ gi =>
    have hjt:j<t:=by omega
    have l1:(j:Int)<(t:Int):=by omega
    obtain⟨x,hx⟩:∃ x,T[j]? = some x:=⟨_,List.getElem?_eq_getElem (by rw[← HTN.out];exact hjt)⟩
    obtain⟨b,u,rfl,hbl,cu,hin⟩:=HC.out j x hx
    have cu2:=mcell H8.out.o hbl cu
    obtain⟨A4,o4,c4,rfl,-,hc4⟩:=hin.form
    obtain⟨x40,xb⟩:=HTL.out x (List.mem_of_getElem? hx)
    have HXB:=Lib.hid xb
    have HXJ:=Lib.hid hx
    have HC4:=Lib.hid hc4
    have HI0:=Lib.hid (mfIn_zero M T j x)
    have HIE:=Lib.hid (mfIn_end (m:=M) hx)
    have HSZ:=Lib.hid (fun k=>mfIn_size (m:=M) (T:=T) (j:=j) (k:=k) HBY.out x40)
    have HPM:=Lib.hid (fun W=>mput1_any x.length W (by omega))
    have hz0:(bs (be 1 x.length)).size=1:=by rw[bs_size,be_length]
    obtain⟨m,hm⟩:∃ m,m=x.length:=⟨_,rfl⟩
    have HM:=Lib.hid hm
    rw[← hm] at HI0 HIE HPM cu2 x40 hz0
    generalize hB1:bs (be 1 m)=B1 at *
    have HZ1:=Lib.hid (show(mfTo M T j).size+B1.size≤1000000 by have:=mfTo_size (m:=M) (j:=j) HBY.out;omega)
    clear hB1 hx hbl cu hin hc4 xb hm hz0
    go_wp2_with fail
    refine(HPM.out _).mono ?_
    rintro e w8 ⟨rfl,hb8⟩
    have HW:=Lib.hid ((H8.out.below hb8).write B1 HZ1.out)
    clear hb8
    go_wp2_with fail
    refine HW.out.mono ?_
    rintro e w9 ⟨rfl,W9⟩
    rw[HI0.out] at W9
    clear HW HPM HI0
    go_wp2
    go_loopg [45] m (fun g i wx=>∃ k:Nat,k+g=m∧i = .int .i64 k∧Wrt w1 (mfIn M T j x k) wx)
    case atStart=>exact⟨0,by omega,rfl,W9⟩
    case round =>
     obtain⟨kk,hkg,rfl,W10⟩:=hrel
     have H10:=Lib.hid W10
     clear W10 W9
     cases gk with
     | zero =>
       obtain rfl:kk=m:=by omega
       have l2:¬ (kk:Int)<(kk:Int):=by omega
       have HR:=H10.out
       rw[HIE.out] at HR
       have HRR:=Lib.hid HR
       clear HR
       go_wp2
       go_roundg gi
       case measure=>omega
       case rel=>exact⟨j+1,by omega,by go_num,HRR.out⟩
     | succ gj =>
       have hkm:kk<m:=by omega
       have l2:(kk:Int)<(m:Int):=by omega
       obtain⟨y,hy⟩:∃ y,x[kk]? = some y:=⟨_,List.getElem?_eq_getElem (by rw[← HM.out];exact hkm)⟩
       obtain⟨b2,rfl,hb2,cy⟩:=HC4.out kk y hy
       obtain⟨y0,y1⟩:=HXB.out y (List.mem_of_getElem? hy)
       have cy2:=mcell H10.out.o hb2 cy
       have HIS:=Lib.hid (mfIn_succ (m:=M) (T:=T) (j:=j) hy)
       obtain⟨N,rfl⟩:∃ N:Nat,y=(N:Int):=⟨y.toNat,by omega⟩
       have HPY:=Lib.hid (fun W=>mput4_any N W (by omega))
       rw[Int.toNat_natCast] at HIS
       have hz4:(bs (be 4 N)).size=4:=by rw[bs_size,be_length]
       generalize bs (be 4 N)=B4 at *
       have HZ4:=Lib.hid (show(mfIn M T j x kk).size+B4.size≤1000000 by have:=HSZ.out kk;omega)
       clear hy hb2 cy hz4 y0 y1
       go_wp2_with fail
       refine(HPY.out _).mono ?_
       rintro e w11 ⟨rfl,hb11⟩
       have HW:=Lib.hid ((H10.out.below hb11).write B4 HZ4.out)
       clear hb11 cy2
       go_wp2_with fail
       refine HW.out.mono ?_
       rintro e w12 ⟨rfl,W12⟩
       rw[HIS.out] at W12
       have HR:=Lib.hid W12
       clear HW HPY HIS W12
       go_wp2
       go_roundg gj
       case measure=>omega
       case rel=>exact⟨kk+1,by omega,by go_num,HR.out⟩
theorem mput_any (n c:Int)(d:Nat)(A:Option Addr)(k cp:Nat)(R:LvL)(w:World)(h:LvsHas w (.slice A k cp) R)(hk:k=R.length)(hl:R.flatten.length≤100000)(hL:R.length≤100000)(hd:d<18446744073709551616) :
  Calls Tryz.prog 194 #[manV n c d (.slice A k cp)] w (MfPutEnd w ⟨n,c,d,R⟩):=by
 by_cases hm:MayM ⟨n,c,d,R⟩
 ·obtain⟨N,rfl⟩:∃ N:Nat,n=(N:Int):=⟨n.toNat,by have:=hm.1;simp only at this;omega⟩
  obtain⟨C,rfl⟩:∃ C:Nat,c=(C:Int):=⟨c.toNat,by have:=hm.2.2.1;simp only at this;omega⟩
  exact mput_yes N C d A k cp R w h hk hm hd
 ·exact mput_no n c d A k cp R w h hl hL hm
theorem LvsNew.far {w:World}{base b i:Nat}{v:Value}{R:LvL}(h:LvsNew w base v R)(hb:b<base)(u:Value) : LvsNew (w.setCell ⟨b,i,none⟩ u) base v R:=by
 obtain⟨M,h1,h2,h3⟩:=h
 exact⟨M,own_far h1 (fun e=>by have:=LvRow.block h1 b e;omega) u,fun x hx=>own_far (h2 x hx) (fun e=>by have:=(IRow.block (h2 x hx) b e).1;omega) u,h3⟩
def manSet (w:World)(g:Nat)(a b c d:Value) : World:=(((w.setCell ⟨g,0,none⟩ a).setCell ⟨g,1,none⟩ b).setCell ⟨g,2,none⟩ c).setCell ⟨g,3,none⟩ d
theorem manSet_below {B:Nat}{w W:World}{g:Nat}(h:Below B w W)(hg:B≤g)(a b c d:Value) : Below B w (manSet W g a b c d):=(((h.setCell (p:=⟨g,0,none⟩) hg a).setCell (p:=⟨g,1,none⟩) hg b).setCell (p:=⟨g,2,none⟩) hg c).setCell (p:=⟨g,3,none⟩) hg d
theorem LvsNew.manSet {W:World}{base g:Nat}{v:Value}{R:LvL}(h:LvsNew W base v R)(hg:g<base)(a b c d:Value) : LvsNew (manSet W g a b c d) base v R:=(((h.far hg a).far hg b).far hg c).far hg d
end
end Go.Proofs.YtcpfkaehefcakaaGreat

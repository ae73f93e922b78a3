/- ZfBlIter -/
import Derived.RangeFuncNested
import Derived.RangeFuncBound
import Derived.RangeFuncCalls
import Derived.RangeFuncLeaves
import Derived.RangeFuncBox
import Derived.Shelf.Abstract
import Derived.WalkKit
import Derived.OwnWalkIn
import Derived.TacticsInMore
import Derived.LoopNIn
import Derived.LoopIn
import Derived.Test.YtokbfellcadkpaaGreatPf03
namespace Go.Proofs.YtokbfellcadkpaaGreat
open Go.RowKit Go.Shelf
set_option linter.unusedVariables false
set_option maxRecDepth 100000
attribute [local go_sem] Oper.semAt_some
abbrev Asked (h:Nat)(p b:Int) := { k:Nat // k∈asksL h p b }
def encAs {h:Nat}{p b:Int}(x:Asked h p b) : Array Value:=#[.int .i64 (x.1:Nat)]
def valAs {h:Nat}{p b:Int}(pre:List (Asked h p b)) : List Nat:=pre.map (·.1)
theorem valAs_nil {h:Nat}{p b:Int} : valAs ([]:List (Asked h p b))=[]:=rfl
theorem valAs_snoc {h:Nat}{p b:Int}(pre:List (Asked h p b))(x:Asked h p b) : valAs (pre++[x])=valAs pre++[x.1]:=by simp[valAs]
def Keeps3 (A B C:Nat)(W W':World) : Prop:=W'.heap[A]? = W.heap[A]?∧W'.heap[B]? = W.heap[B]?∧W'.heap[C]? = W.heap[C]?
theorem keeps3_t {A B C:Nat}{X Y Z:World}(h:Keeps3 A B C X Y)(k:Keeps3 A B C Y Z) : Keeps3 A B C X Z:=⟨Eq.trans k.1 h.1,Eq.trans k.2.1 h.2.1,Eq.trans k.2.2 h.2.2⟩
theorem keeps3_b {A B C:Nat}{w:World}(hA:A<w.heap.size)(hB:B<w.heap.size)(hC:C<w.heap.size)(W:World)(l:Nat)(o o':Obj)(hl:w.heap.size≤l)(h:W.heap[l]? = some o)(_ : o.isCells=false)(_ : o.isWalk=false) : Keeps3 A B C W (W.putObj l o'):=by
 have hlt:=(Array.getElem?_eq_some_iff.1 h).1;have h1:=fun(B:Nat) (hB:B<w.heap.size)=>(grownBy_putObj' W l o').block B (by omega) (fun e=>by cases e;omega)
 exact⟨h1 A hA,h1 B hB,h1 C hC⟩
set_option maxRecDepth 100000 in
set_option maxHeartbeats 2000000 in
theorem asked_walk (n:Nat)(hn:1≤n)(l Bp Bh Bb g:Nat)(p b:Int)(hh:g<18446744073709551616)(wp:(Lit.int .i64 p).wf=true)(wb:(Lit.int .i64 b).wf=true)(J Jx:List (Asked g p b)→World→Prop)(W:World)(hJ:AbidesFrom W.heap.size J)
  (hY:∀ pre x W1,J pre W1→pre.length<64→YieldAt Fence.wide (n-1) Tryz.prog l (encAs x) W1 fun e W' =>
   (e = .returned (.bool true)∧J (pre++[x]) W'∧Keeps3 Bp Bh Bb W1 W')∨(e = .returned (.bool false)∧Jx (pre++[x]) W'))
  (hBp:Boxed W Bp 3 (.int .i64 p)) (hBh:Boxed W Bh 23 (.int .u64 (g:Nat))) (hBb:Boxed W Bb 3 (.int .i64 b)) (h0:J [] W) :
  CallsIn Fence.wide n Tryz.prog 269 #[.func (.yield l) #[] #[],.pointer (some ⟨Bp,0,none⟩),.pointer (some ⟨Bh,0,none⟩),.pointer (some ⟨Bb,0,none⟩)] W fun e W'=>(∃ v,e = .returned v) ∧
   ((∃ ys,valAs ys=asksL g p b∧J ys W')∨(∃ pre,True∧Jx pre W')):=by
 have hb64:=nps_le p;have bp:=bounds_i64 wp;refine callsIn_of_wp Tryz.func269 rfl trivial ?_ rfl;simp only[Tryz.ntmps269,List.size_toArray,List.length_cons,List.length_nil,Nat.reduceAdd,Nat.reduceSub,Array.replicate_succ,Array.replicate_zero,List.push_toArray,List.append_toArray,List.nil_append,List.cons_append];have hcp:=hBp.cell;have hnp:(nps p:Int)=max 0 (min p 64):=by unfold nps;omega
 have HA:=Lib.hid (asksTo_all g p b);have HP:=Lib.hid fun(i:Nat) (hi:i<nps p)=>show prb g (i:Nat) b∈asksL g p b from asksL_mem.2 ⟨i,hi,rfl⟩
 have HS:=Lib.hid fun(i:Nat)=>asksTo_succ g b i
 have HPR:=Lib.hid fun(i:Nat) (w:World) (hi:i<64)=>probe_any g (i:Nat) b w hh (WalkArith.wf_i64 (by omega)) wb
 gi_wp2
 all_goals
  gi_loopw [8] (fun f wr=>∃ (k:Nat) (pre:List (Asked g p b)),k≤nps p∧pre.length=k∧f = .int .i64 k∧valAs pre=asksTo g b k∧J pre wr∧Boxed wr Bp 3 (.int .i64 p)∧Boxed wr Bh 23 (.int .u64 (g:Nat))∧Boxed wr Bb 3 (.int .i64 b))
   (fun f _=>nps p-(intOf f).toNat)
  case atStart=>exact⟨0,[],Nat.zero_le _,rfl,rfl,rfl,h0,hBp,hBh,hBb⟩
  case round =>
   obtain⟨k,pre,hk,hpl,rfl,hv,hJs,q1,q2,q3⟩:=hrel;by_cases hlt:k<nps p
   ·have c2:=q2.cell;have c3:=q3.cell;have HPK:=Lib.hid fun w=>HPR.out k w (by omega)
    have HN:=Lib.hid (HS.out k);obtain⟨x,hx,hxe⟩:∃ x,∃ hx:x∈asksL g p b,prb g (k:Nat) b=x:=⟨_,HP.out k hlt,rfl⟩
    rw[hxe] at HPK HN;have HY:=Lib.hid (hY pre ⟨x,hx⟩ wr hJs (by omega));have HV:=Lib.hid (valAs_snoc pre ⟨x,hx⟩);unfold encAs at HY;simp only at HY HV;clear hxe
    gi_wp2
    refine⟨trivial, ?_⟩;refine(callsIn_wide.2 (HPK.out _)).mono ?_;rintro e w1 ⟨rfl,rfl⟩;obtain⟨fn,tmps,assign,body,hy,hR⟩:=HY.out
    gi_wp2
    refine hR.mono ?_;rintro e W3 (⟨rfl,hJ3,r1,r2,r3⟩ | ⟨rfl,hJx3⟩)
    ·gi_wp2
     go_roundw
     case rel =>
      exact⟨k+1,_,by omega,by rw[List.length_append,hpl];rfl,by go_num,by rw[HV.out,HN.out,hv],hJ3,Eq.trans r1 q1,Eq.trans r2 q2,Eq.trans r3 q3⟩
     case measure=>simp[intOf];omega
    ·gi_wp2
     refine bodyPost_ret (results_none rfl _ _ _) rfl ?_;exact⟨⟨_,rfl⟩,.inr ⟨_,trivial,hJx3⟩⟩
   ·obtain rfl:k=nps p:=by omega
    have HF:=Lib.hid (And.intro (hv.trans HA.out) hJs)
    gi_wp2
    go_end0;exact⟨⟨_,rfl⟩,.inl ⟨pre,HF.out⟩⟩
theorem blboxed_below {W W':World}{B:Nat}{t:TypeId}{v:Value}(h:Boxed W B t v)(hb:Below W.heap.size W W') : Boxed W' B t v:=(hb.block B h.lt).trans h
theorem asked_stops (n:Nat)(hn:1≤n)(Bp Bh Bb g:Nat)(p b:Int)(hh:g<18446744073709551616)(wp:(Lit.int .i64 p).wf=true)(wb:(Lit.int .i64 b).wf=true)(w:World)
  (hBp:Boxed w Bp 3 (.int .i64 p)) (hBh:Boxed w Bh 23 (.int .u64 (g:Nat))) (hBb:Boxed w Bb 3 (.int .i64 b)) :
  SeqStopsK Fence.wide n Tryz.prog 269 #[.pointer (some ⟨Bp,0,none⟩),.pointer (some ⟨Bh,0,none⟩),.pointer (some ⟨Bb,0,none⟩)] (encAs (h:=g) (p:=p) (b:=b)) (Keeps3 Bp Bh Bb)
   (fun ys=>valAs ys=asksL g p b) (fun _=>True) 64 w:=fun l J Jx W hW hJ _ hY h0 =>
 asked_walk n hn l Bp Bh Bb g p b hh wp wb J Jx W hJ hY (blboxed_below hBp hW) (blboxed_below hBh hW) (blboxed_below hBb hW) h0
set_option maxHeartbeats 1000000 in
theorem asked_in (n:Nat)(g p b:Int)(w:World) :
  CallsIn Fence.wide n Tryz.prog 236 #[.int .u64 g,.int .i64 p,.int .i64 b] w fun e w'=>e = .returned (.func (.func 269) #[] #[.pointer (some ⟨w.heap.size+1,0,none⟩),.pointer (some ⟨w.heap.size,0,none⟩),.pointer (some ⟨w.heap.size+2,0,none⟩)]) ∧
   w'=((w.alloc (.cells #[.int .u64 g] 23)).alloc (.cells #[.int .i64 p] 3)).alloc (.cells #[.int .i64 b] 3):=by
 refine callsIn_of_wp Tryz.func236 rfl trivial ?_ rfl;simp only[Tryz.ntmps236,List.size_toArray,List.length_cons,List.length_nil,Nat.reduceAdd,Nat.reduceSub,Array.replicate_succ,Array.replicate_zero,List.push_toArray,List.append_toArray,List.nil_append,List.cons_append]
 gi_wp2
 go_ret;exact⟨rfl,rfl⟩
end Go.Proofs.YtokbfellcadkpaaGreat

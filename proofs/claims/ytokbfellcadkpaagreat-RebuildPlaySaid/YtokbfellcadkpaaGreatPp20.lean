import Derived.RangeFuncNested
import Derived.RangeFuncBound
import Derived.OwnWalkIn
import Derived.TacticsInMore
import Derived.LoopNIn
import Derived.LoopIn
import Derived.Test.YtokbfellcadkpaaGreatPp03
set_option linter.unusedVariables false
set_option maxRecDepth 100000
set_option maxHeartbeats 9000000
namespace Go.Proofs.YtokbfellcadkpaaGreat
open Tryz
section
open Go.RowKit Go.Shelf
attribute [local go_sem] Oper.semAt_some
abbrev nX(h:Nat)(p b:Int) := { k:Nat // k∈ux h p b }
def Q8{h:Nat}{p b:Int}(x:nX h p b):Array Value:=#[.int .i64 (x.1:Nat)]
def cO{h:Nat}{p b:Int}(a:List (nX h p b)):List Nat:=a.map (·.1)
theorem qZw{h:Nat}{p b:Int}:cO ([]:List (nX h p b))=[]:=rfl
theorem CI{h:Nat}{p b:Int}(a:List (nX h p b))(x:nX h p b):cO (a++[x])=cO a++[x.1]:=by simp[cO]
def nZ(A B C:Nat)(W a:World):Prop:=a.heap[A]? = W.heap[A]?/\a.heap[B]? = W.heap[B]?/\a.heap[C]? = W.heap[C]?
theorem qJQ{A B C:Nat}{X Y Z:World}(h:nZ A B C X Y)(k:nZ A B C Y Z):nZ A B C X Z:=⟨Eq.trans k.1 h.1,Eq.trans k.2.1 h.2.1,Eq.trans k.2.2 h.2.2⟩
theorem qJX{A B C:Nat}{w:World}(d:A<w.heap.size)(b:B<w.heap.size)(f:C<w.heap.size)(W:World)(l:Nat)(o c:Obj)(g:w.heap.size<=l)(h:W.heap[l]? = some o)(_ : o.isCells=false)(_ : o.isWalk=false):nZ A B C W (W.putObj l c):=by
 have i:=(qm.1 h).1;have a:=fun(B:Nat) (b:B<w.heap.size)=>(grownBy_putObj' W l c).block B (by omega) (fun e=>by cases e;omega)
 exact⟨a A d,a B b,a C f⟩
theorem qJZ(n:Nat)(hn:1<=n)(l m j d g:Nat)(p b:Int)(U:g<18446744073709551616)(wp:(Lit.int .i64 p).wf=true)(wb:(Lit.int .i64 b).wf=true)(J y:List (nX g p b)->World->Prop)(W:World)(hJ:AbidesFrom W.heap.size J)
  (T:∀a x q,J a q->a.length<64->YieldAt Fence.wide (n-1) prog l (Q8 x) q fun e c =>
   (e = .returned (.bool true)/\J (a++[x]) c/\nZ m j d q c)∨(e = .returned (.bool false)/\y (a++[x]) c))
  (z:Boxed W m 3 (.int .i64 p)) (P:Boxed W j 23 (.int .u64 (g:Nat))) (O:Boxed W d 3 (.int .i64 b)) (N:J [] W):
  CallsIn Fence.wide n prog 269 #[.func (.yield l) #[] #[],.pointer (some ⟨m,0,none⟩),.pointer (some ⟨j,0,none⟩),.pointer (some ⟨d,0,none⟩)] W fun e c=>(∃v,e = .returned v) /\
   ((∃ys,cO ys=ux g p b/\J ys c)∨(∃a,True/\y a c)):=by
 have ac:=Fv p;have bp:=bounds_i64 wp;refine callsIn_of_wp func269 rfl trivial ?_ rfl;simp only[ntmps269,List.size_toArray,List.length_cons,List.length_nil,Nat.reduceAdd,Nat.reduceSub,Array.replicate_succ,Array.replicate_zero,List.push_toArray,List.append_toArray,List.nil_append,List.cons_append];have ad:=z.cell;have ae:(nps p:Int)=max 0 (min p 64):=by unfold nps;omega
 have H:=qQ (Fb g p b);have K:=qQ fun(i:Nat) (B:i<nps p)=>show prb g (i:Nat) b∈ux g p b from sM.2 ⟨i,B,rfl⟩
 have M:=qQ fun(i:Nat)=>Fu g b i
 have L:=qQ fun(i:Nat) (w:World) (B:i<64)=>VI g (i:Nat) b w U (WalkArith.wf_i64 (by omega)) wb
 gi_wp2
 all_goals
  gi_loopw [8] (fun f wr=>∃(k:Nat) (a:List (nX g p b)),k<=nps p/\a.length=k/\f = .int .i64 k/\cO a=pB g b k/\J a wr/\Boxed wr m 3 (.int .i64 p)/\Boxed wr j 23 (.int .u64 (g:Nat))/\Boxed wr d 3 (.int .i64 b))
   (fun f _=>nps p-(intOf f).toNat)
  case atStart=>exact⟨0,[],qF _,rfl,rfl,rfl,N,z,P,O⟩
  case round =>
   obtain⟨k,a,hk,X,rfl,C,A,Y,F,G⟩:=hrel;by_cases V:k<nps p
   ·have c2:=F.cell;have c3:=G.cell;have t:=qQ fun w=>L.out k w (by omega)
    have s:=qQ (M.out k);obtain⟨x,r,D⟩:∃x,∃r:x∈ux g p b,prb g (k:Nat) b=x:=⟨_,K.out k V,rfl⟩
    rw[D]at t s;have o:=qQ (T a ⟨x,r⟩ wr A (by omega));have u:=qQ (CI a ⟨x,r⟩);unfold Q8 at o;simp only at o u;clear D
    gi_wp2
    refine⟨trivial, ?_⟩;refine(callsIn_wide.2 (t.out _)).mono ?_;rintro e w1⟨rfl,rfl⟩;obtain⟨fn,af,aa,ab,hy,S⟩:=o.out
    gi_wp2
    refine S.mono ?_;rintro e W3 (⟨rfl,Q,Z,r2,r3⟩|⟨rfl,R⟩)
    ·gi_wp2
     go_roundw
     case rel =>
      exact⟨k+1,_,by omega,by rw[qI,X];rfl,by go_num,by rw[u.out,s.out,C],Q,Eq.trans Z Y,Eq.trans r2 F,Eq.trans r3 G⟩
     case measure=>simp[intOf];omega
    ·gi_wp2
     refine bodyPost_ret (results_none rfl _ _ _) rfl ?_;exact⟨⟨_,rfl⟩,.inr ⟨_,trivial,R⟩⟩
   ·obtain rfl:k=nps p:=(by omega);have I:=qQ (qU (C.trans H.out) A)
    gi_wp2
    go_end0;exact⟨⟨_,rfl⟩,.inl ⟨a,I.out⟩⟩
theorem Q9{W a:World}{B:Nat}{t:TypeId}{v:Value}(h:Boxed W B t v)(b:Below W.heap.size W a):Boxed a B t v:=(b.block B h.lt).trans h
theorem qJJ(n:Nat)(t:1<=n)(d c a g:Nat)(p b:Int)(s:g<18446744073709551616)(v:(Lit.int .i64 p).wf=true)(u:(Lit.int .i64 b).wf=true)(w:World)
  (o:Boxed w d 3 (.int .i64 p)) (m:Boxed w c 23 (.int .u64 (g:Nat))) (k:Boxed w a 3 (.int .i64 b)):
  SeqStopsK Fence.wide n prog 269 #[.pointer (some ⟨d,0,none⟩),.pointer (some ⟨c,0,none⟩),.pointer (some ⟨a,0,none⟩)] (Q8 (h:=g) (p:=p) (b:=b)) (nZ d c a)
   (fun ys=>cO ys=ux g p b) (fun _=>True) 64 w:=fun l J i W f q _ r j =>
 qJZ n t l d c a g p b s v u J i W q r (Q9 o f) (Q9 m f) (Q9 k f) j
theorem qJK(n:Nat)(g p b:Int)(w:World):
  CallsIn Fence.wide n prog 236 #[.int .u64 g,.int .i64 p,.int .i64 b] w fun e w'=>e = .returned (.func (.func 269) #[] #[.pointer (some ⟨w.heap.size+1,0,none⟩),.pointer (some ⟨w.heap.size,0,none⟩),.pointer (some ⟨w.heap.size+2,0,none⟩)]) /\
   w'=((w.alloc (.cells #[.int .u64 g] 23)).alloc (.cells #[.int .i64 p] 3)).alloc (.cells #[.int .i64 b] 3):=by
 refine callsIn_of_wp func236 rfl trivial ?_ rfl;simp only[ntmps236,List.size_toArray,List.length_cons,List.length_nil,Nat.reduceAdd,Nat.reduceSub,Array.replicate_succ,Array.replicate_zero,List.push_toArray,List.append_toArray,List.nil_append,List.cons_append]
 gi_wp2
 go_ret;exact⟨rfl,rfl⟩
end
end Go.Proofs.YtokbfellcadkpaaGreat

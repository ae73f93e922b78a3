import Derived.Test.YthejglbnkmimjaaGreatQp03
import Derived.Great.Walk
set_option linter.unusedVariables false
set_option maxRecDepth 100000
set_option maxHeartbeats 9000000
namespace Go.Proofs.YthejglbnkmimjaaGreat
open Proofs.Tryz
section
open Go.RowKit Go.Great
theorem Bn: (prog.info? 5).map (fun i=>(i.zero,i.size,i.bytes))=some (some (.int .u8 0),1,1):=by kernel_rfl
section
variable {w w':World}{g:Nat}{t:TypeId}{C C':Array Value}
theorem qXm(h:jF w g t C)(d:C.size=C'.size)(b:C'.all (·.oneCell')=true):(storeCells ⟨g,0,none⟩ C'.toList 0).run prog w=.ok () (w.setRow g C'):=by
 have c:=run_storeCells_from (P:=prog) g t C'.toList 0 C w h (by simp[d]) (fun v f=>by
  rw[<-Array.all_toList,List.all_eq_true]at b;exact b v f)
 rw[c];simp
theorem jF.after{w w':World}{g:Nat}{t:TypeId}{cs:Array Value}(h:jF w g t cs)(b:Below w.1.size w w'):jF w' g t cs:=(b.block _ h.lt).trans h
theorem jF.row(h:jF w g t C)(C':Array Value):jF (w.setRow g C') g t C':=setRow_heap w g C C' t (0,0) h
theorem Q6{B:Nat}(h:Below B w w')(c:B<=g)(C':Array Value):Below B w (w'.setRow g C') :=
 ⟨h.os,h.tape,h.output,by simpa[World.setRow] using h.size,fun k b=>(setRow_other w' g k C' (by omega)).trans (h.block k b)⟩
theorem qXn(h:jF w g t C)(d:C.size=60)(s:Tw)(c:s.size=60)(ty:TypeId):(Builtin.copy_ #[154,9] ty #[.slice (some ⟨g,0,none⟩) 60 60,s]).run prog w=.ok (.int .i64 60) (w.setRow g (pgC s.data.toList)):=by
 obtain⟨i,j,_,m,_⟩:=info_parts Bn;have k:s.data.toList.length=60:=by rw[dX,c]
 have hst:=qXm h (C':=pgC s.data.toList) (by rw[d,p8,k]) (p9 _)
 have f:(Builtin.firstCells 1 60 (.string s)).run prog w=.ok (pgC s.data.toList) w:=by
  show(pure (((s.extract 0 60).data.map fun b=>Value.int .u8 b.toNat)):Sem (Array Value)).run prog w=_;rw[Sem.run_pure,show s.extract 0 60=s by rw[fv,List.drop_zero,qp (by omega),mO]];congr 1;apply Array.ext';unfold pgC;rw[Array.toList_map]
 have l:Nat.min s.size 60=60:=by rw[c];rfl
 simp[Builtin.copy_,run_underlying Tryz.underlying154,Builtin.lenOf,sizeOf,typeInfo,j,m,l,f,hst,goInt]
theorem qXp(w:World)(A:Option Addr)(ty:TypeId):(Builtin.copy_ #[154,9] ty #[.slice A 60 60,.string ByteArray.empty]).run prog w=.ok (.int .i64 0) w:=by
 obtain⟨i,d,_,f,_⟩:=info_parts Bn
 have c:(Builtin.firstCells 1 0 (.string ByteArray.empty)).run prog w=.ok #[] w:=by
  show(pure (((ByteArray.empty.extract 0 0).data.map fun b=>Value.int .u8 b.toNat)):Sem (Array Value)).run prog w=_;rw[Sem.run_pure,show ByteArray.empty.extract 0 0=ByteArray.empty by decide];exact congrArg (fun x=>Result.ok x w) Array.map_empty
 cases A<;>simp[Builtin.copy_,run_underlying Tryz.underlying154,Builtin.lenOf,sizeOf,typeInfo,d,f,c,storeCells,goInt]
end
def pgZ: Array Value:=pgC (List.replicate 60 0)
theorem J4: pgZ.size=60:=rfl
theorem Br: pgZ.all (·.oneCell')=true:=p9 _
section
variable {ops:Array Oper}{rest:List Oper}{o:Oper}{a:Act}{w:World}{Q:Exit -> Act -> World -> Prop}{Z C C':Array Value}{g:Nat}{t:TypeId}
theorem Q7(c:pgZ=Z)(f:o.guard=none)(b:Option Tmp)(d:o.dst=b)(i:o.op=.alloc 335)
  (h:wpList prog ops Q rest (a.put b (.pointer (some ⟨w.1.size,0,none⟩))) (w.alloc (.cells Z 335))):wpList prog ops Q (o::rest) a w:=by
 subst c;refine wpList_runTo f b d _ _ ?_ h;unfold execOp;simp only[i,Sem.run_bind,Instr.alloc,V6,Result.andThen_ok];rfl
theorem qXr(c:pgZ=Z)(f:o.guard=none)(b:Option Tmp)(d:o.dst=b)(i:o.op=.build 335 #[])
  (h:wpList prog ops Q rest (a.put b (.agg Z)) w):wpList prog ops Q (o::rest) a w:=by
 subst c;refine wpList_runTo f b d _ _ ?_ h;unfold execOp;simp only[i,Sem.run_bind,List.map_toArray,List.map_nil];rw[run_build w 335 #[] pgZ (by kernel_rfl)];rfl
theorem Q8(i:o.guard=none)(x y:Operand)(j:o.op=.store 335 x y)(k:a.eval x=.pointer (some ⟨g,0,none⟩))(l:a.eval y=.agg C')(f:jF w g t C)(d:C.size=60)(b:C'.size=60)(c:C'.all (·.oneCell')=true)
  (h:wpList prog ops Q rest (a.put o.dst undef) (w.setRow g C')):wpList prog ops Q (o::rest) a w :=
 wpList_store_row i _ x y j g C' k l t C f (by rw[b];exact tQ) (by rw[d,b]) c h
theorem Bt(d:o.guard=none)(x:Operand)(f:o.op=.load 335 x)(i:a.eval x=.pointer (some ⟨g,0,none⟩))(c:jF w g t C)(b:C.size=60)
  (h:wpList prog ops Q rest (a.put o.dst (.agg C)) w):wpList prog ops Q (o::rest) a w :=
 wpList_load_row d _ x f g i t C (0,0) _ c Tryz.underlying335 rfl (by rw[b];exact tQ) h
theorem qXs{w':World}{s:Tw}{b c:Value}(f:o.guard=none)(x y:Operand)(i:o.op=.call { callee:=.builtin .copy,args:=#[x,y],argTypes:=#[154,9] })(k:a.eval x=c)(l:a.eval y=.string s)
  (j:∀ty,(Builtin.copy_ #[154,9] ty #[c,s]).run prog w=.ok b w')
  (h:wpList prog ops Q rest (a.put o.dst b) w'):wpList prog ops Q (o::rest) a w:=by
 refine wpList_plain f fun m d=>?_
 unfold Oper.wp execOp;simp only[i,resolve,invoke,builtin,Sem.run_bind,Sem.run_pure,Result.andThen_ok,List.map_toArray,List.map_cons,List.map_nil,k,l,j];exact d _ _ h
theorem Ba{b:Func}{R:Ending->World->Prop}{p u:Tmp}{q:Bool}(j:b.results=#[.cell p 335,.tmp u])(k:a.tmps.getD p undef=.pointer (some ⟨g,0,none⟩))(l:a.tmps.getD u undef=.bool q)(f:jF w g t C)(c:C.size=60)(i:a.defers=[])
  (d:R (.returned (.tuple #[.agg C,q])) w):bodyPost prog b R .ret a w:=by
 refine bodyPost_ret ?_ i d;rw[results_cell_tmp j,k,l];simp only[asAddr,Sem.run_pure,Result.andThen_ok];rw[run_loadVar_row w g t 335 C (0,0) _ f Tryz.underlying335 rfl (by rw[c];exact tQ)];rfl
theorem qXt: (prog.info? 237).map (·.size)=some 3:=by kernel_rfl
theorem lW{b:Func}{R:Ending->World->Prop}{p:Tmp}(j:b.results=#[.cell p 237])(k:a.tmps.getD p undef=.pointer (some ⟨g,0,none⟩))(f:jF w g t C)(c:C.size=3)(i:a.defers=[])
  (d:R (.returned (.agg C)) w):bodyPost prog b R .ret a w :=
 bodyPost_ret (results_cell_row j _ w g t C (0,0) _ k f Tryz.underlying237 rfl (by rw[c];exact qXt)) i d
end
end
section
open Go.RowKit
def pgL(t:Tw)(j:Nat):List UInt8:=if pgW t j=true then(pgT t j).data.toList.take 60 else List.replicate 60 0
theorem qXa{t:Tw}{j:Nat}(h:pgW t j=true):(opA (pgT t j)).data.toList=pgL t j/\(opA (pgT t j)).size=60:=by
 obtain⟨c,d⟩:=XS.1 h;have b:=XR c;unfold opA pgL;rw[qV d,qV h,b];refine⟨by rw[nr];rfl,by rw[qk,b];rfl⟩
theorem qXe(Z:Array Value)(b:pgZ=Z)(t:Tw)(y:Nat)(j:Int)(w:World)(k:0<=j/\j<=100000)(m:j*64=y)(l:t.size<=1100000)(h:(t.size:Int)<(y:Int)+64):
  Calls prog 300 #[t,j] w (X3 (.tuple #[.agg Z,.bool false]) w):=by
 have c:Z.size=60:=by rw[<-b];exact J4
 have i:Z.all (·.oneCell')=true:=by rw[<-b];exact Br
 have d:=qQ (jF.new w 335 Z);have f:=qQ ((qU w.1.size w).alloc (qK _) (.cells Z 335));go_enter func300,ntmps300
 go_wp2_with (first
  | (refine Q7 b rfl _ rfl rfl ?_)
  | (refine qXr b rfl _ rfl rfl ?_)
  | (refine Q8 rfl _ _ rfl rfl rfl d.out c c i ?_))
 refine Ba rfl rfl rfl (d.out.row Z) c rfl ?_;exact⟨rfl,Q6 f.out (qK _) Z⟩
theorem qXi(Z:Array Value)(k:pgZ=Z)(t s:Tw)(y:Nat)(j:Int)(q:Bool)(C:Array Value)(w:World)(N:0<=j/\j<=100000)(P:j*64=y)(O:t.size<=1100000)(h:(y:Int)+64<=(t.size:Int))
  (z:∀W,Calls prog 157 #[.string (t.extract y (y+64))] W (X3 (.tuple #[s,q]) W))
  (D:(s=ByteArray.empty/\C=Z)∨(s.size=60/\C=pgC s.data.toList)):
  Calls prog 300 #[t,j] w (X3 (.tuple #[.agg C,q]) w):=by
 have F:Z.size=60:=by rw[<-k];exact J4
 have M:Z.all (·.oneCell')=true:=by rw[<-k];exact Br
 have r:=qQ (jF.new w 335 Z);have A:=qQ ((qU w.1.size w).alloc (qK _) (.cells Z 335));have I:=qQ z
 have u:∀W,jF W w.1.size 335 Z->Below w.1.size w W->∃v c,(∀b,(Builtin.copy_ #[154,9] b #[.slice (some ⟨w.1.size,0,none⟩) 60 60,s]).run prog W=.ok v c)/\jF c w.1.size 335 C/\Below w.1.size w c/\C.size=60/\C.all (·.oneCell')=true:=by
  intro W i B;rcases D with⟨rfl,rfl⟩|⟨p,rfl⟩
  ·exact⟨_,_,fun b=>qXp W _ b,i,B,F,M⟩
  ·exact⟨_,_,fun b=>qXn i F s p b,i.row _,Q6 B (qK _) _,by rw[p8,dX,p],p9 _⟩
 have H:=qQ u;clear D z u;go_enter func300,ntmps300
 go_wp2_with (first
  | (refine Q7 k rfl _ rfl rfl ?_)
  | (refine(I.out _).mono ?_;rintro e L⟨rfl,l⟩;obtain⟨v,c,J,m,n,d,K⟩:=H.out L ((l.block _ r.out.lt).trans r.out) (A.out.trans (l.mono A.out.size));have f:=qQ m;have G:=qQ n;clear m n)
  | (refine qXs rfl _ _ rfl rfl rfl J ?_)
  | (refine Bt rfl _ rfl rfl f.out d ?_)
  | (refine Q8 rfl _ _ rfl rfl rfl f.out d d K ?_))
 refine Ba rfl rfl rfl (f.out.row C) d rfl ?_;exact⟨rfl,Q6 G.out (qK _) C⟩
theorem qXo(t:Tw)(j:Nat)(w:World)(l:j<=100000)(c:t.size<=1100000):
  Calls prog 300 #[t,j] w (X3 (.tuple #[pgV (pgL t j),.bool (pgW t j)]) w):=by
 by_cases h:64*j+64<=t.size
 ·have i:=fun W=>XO (t.extract (64*j) (64*j+64)) W (by rw[qk];unfold maxLen;omega)
  have hw:pgW t j=yn (pgT t j):=by unfold pgW;rw[qB h,Bool.true_and]
  rw[hw];refine qXi pgZ rfl t (opA (pgT t j)) (64*j) (j:Int) (yn (pgT t j)) (pgC (pgL t j)) w (by omega) (by omega) c (by omega) i ?_;by_cases b:yn (pgT t j)=true
  ·obtain⟨d,f⟩:=qXa (t:=t) (j:=j) (hw.trans b);exact qY ⟨f,by rw[d]⟩
  ·refine qX ⟨by unfold opA;rw[qZ b], ?_⟩;unfold pgL pgZ;rw[qZ (by rw[hw];exact b)]
 ·have hw:pgW t j=false:=by unfold pgW;rw[qA h,Bool.false_and]
  have k:pgL t j=List.replicate 60 0:=by unfold pgL;rw[hw];rfl
  rw[hw,k];exact qXe pgZ rfl t (64*j) (j:Int) w (by omega) (by omega) c (by omega)
theorem qXw(t:Tw)(j:Nat):(pgL t j).length=60:=by
 unfold pgL;split
 ·rename_i h;have:=V7 (t:=t) (k:=j-1);rw[qT,dX,XR (XS.1 h).1];decide
 ·rw[List.length_replicate]
theorem qZQ{t:Tw}{k:Nat}(h:pgW t (k+1)=true):pgL t (k+1)=pgB t k:=by unfold pgL pgB;rw[qV h]
end
end Go.Proofs.YthejglbnkmimjaaGreat

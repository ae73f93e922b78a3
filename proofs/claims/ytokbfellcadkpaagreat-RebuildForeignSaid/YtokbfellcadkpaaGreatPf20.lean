/- ZfPgStep, ZfPgPage -/
import Derived.Test.YtokbfellcadkpaaGreatPf04
import Derived.Test.YtokbfellcadkpaaGreatPf01
import Derived.Laws.CopyRow
import Derived.Laws.Rows
import Derived.Laws.ResultCell
import Derived.Great.Walk
import Derived.Lib.Hide
namespace Go.Proofs.YtokbfellcadkpaaGreat
open Go.RowKit Go.Great
set_option linter.unusedVariables false
set_option maxRecDepth 100000
theorem pg_info : (Tryz.prog.info? 5).map (fun i=>(i.zero,i.size,i.bytes))=some (some (.int .u8 0),1,1):=by kernel_rfl
section
variable {w w' : World} {g : Nat} {t : TypeId} {C C' : Array Value}
theorem blk_store (h:Blok w g t C)(hn:C.size=C'.size)(h1:C'.all (·.oneCell')=true) : (storeCells ⟨g,0,none⟩ C'.toList 0).run Tryz.prog w = .ok () (w.setRow g C'):=by
 have h2:=run_storeCells_from (P:=Tryz.prog) g t C'.toList 0 C w h (by simp[hn]) (fun v hv=>by
  rw[← Array.all_toList,List.all_eq_true] at h1;exact h1 v hv)
 rw[h2];simp
theorem Blok.after {w w':World}{g:Nat}{t:TypeId}{cs:Array Value}(h:Blok w g t cs)(hb:Below w.heap.size w w') : Blok w' g t cs:=(hb.block _ h.lt).trans h
theorem Blok.row (h:Blok w g t C)(C':Array Value) : Blok (w.setRow g C') g t C':=setRow_heap w g C C' t (0,0) h
theorem below_row {B:Nat}(h:Below B w w')(hg:B≤g)(C':Array Value) : Below B w (w'.setRow g C') :=
 ⟨h.os,h.tape,h.output,by simpa[World.setRow] using h.size,fun k hk=>(setRow_other w' g k C' (by omega)).trans (h.block k hk)⟩
theorem pg_copy (h:Blok w g t C)(hC:C.size=60)(s:ByteArray)(hs:s.size=60)(ty:TypeId) : (Builtin.copy_ #[109,9] ty #[.slice (some ⟨g,0,none⟩) 60 60,.string s]).run Tryz.prog w = .ok (.int .i64 60) (w.setRow g (pgC s.data.toList)):=by
 obtain⟨i,hi,_,hz1,_⟩:=info_parts pg_info;have hl:s.data.toList.length=60:=by rw[sl_size,hs]
 have hst:=blk_store h (C':=pgC s.data.toList) (by rw[hC,pgC_size,hl]) (pgC_one _)
 have hfc:(Builtin.firstCells 1 60 (.string s)).run Tryz.prog w = .ok (pgC s.data.toList) w:=by
  show(pure (((s.extract 0 60).data.map fun b=>Value.int .u8 b.toNat)):Sem (Array Value)).run Tryz.prog w=_;rw[Sem.run_pure,show s.extract 0 60=s by rw[sl_extbs,List.drop_zero,List.take_of_length_le (by omega),bs_data]];congr 1;apply Array.ext';unfold pgC;rw[Array.toList_map]
 have hm:Nat.min s.size 60=60:=by rw[hs];rfl
 simp[Builtin.copy_,run_underlying Tryz.underlying109,Builtin.lenOf,sizeOf,typeInfo,hi,hz1,hm,hfc,hst,goInt]
theorem pg_copy0 (w:World)(A:Option Addr)(ty:TypeId) : (Builtin.copy_ #[109,9] ty #[.slice A 60 60,.string ByteArray.empty]).run Tryz.prog w = .ok (.int .i64 0) w:=by
 obtain⟨i,hi,_,hz1,_⟩:=info_parts pg_info
 have hfc:(Builtin.firstCells 1 0 (.string ByteArray.empty)).run Tryz.prog w = .ok #[] w:=by
  show(pure (((ByteArray.empty.extract 0 0).data.map fun b=>Value.int .u8 b.toNat)):Sem (Array Value)).run Tryz.prog w=_;rw[Sem.run_pure,show ByteArray.empty.extract 0 0=ByteArray.empty by decide];exact congrArg (fun x=>Result.ok x w) Array.map_empty
 cases A<;>simp[Builtin.copy_,run_underlying Tryz.underlying109,Builtin.lenOf,sizeOf,typeInfo,hi,hz1,hfc,storeCells,goInt]
end
def pgZ : Array Value:=pgC (List.replicate 60 0)
theorem pgZ_size : pgZ.size=60:=rfl
theorem pgZ_one : pgZ.all (·.oneCell')=true:=pgC_one _
section
variable {ops : Array Oper} {rest : List Oper} {o : Oper} {a : Act} {w : World} {Q : Exit → Act → World → Prop} {Z C C' : Array Value} {g : Nat} {t : TypeId}
theorem pg_alloc (hZ:pgZ=Z)(hgd:o.guard=none)(dst:Option Tmp)(hdst:o.dst=dst)(ho:o.op = .alloc 308)
  (h:wpList Tryz.prog ops Q rest (a.put dst (.pointer (some ⟨w.heap.size,0,none⟩))) (w.alloc (.cells Z 308))):wpList Tryz.prog ops Q (o::rest) a w:=by
 subst hZ;refine wpList_runTo hgd dst hdst _ _ ?_ h;unfold execOp;simp only[ho,Sem.run_bind,Instr.alloc,zeroPg,Result.andThen_ok];rfl
theorem pg_zero (hZ:pgZ=Z)(hgd:o.guard=none)(dst:Option Tmp)(hdst:o.dst=dst)(ho:o.op = .build 308 #[])
  (h:wpList Tryz.prog ops Q rest (a.put dst (.agg Z)) w):wpList Tryz.prog ops Q (o::rest) a w:=by
 subst hZ;refine wpList_runTo hgd dst hdst _ _ ?_ h;unfold execOp;simp only[ho,Sem.run_bind,List.map_toArray,List.map_nil];rw[run_build w 308 #[] pgZ (by kernel_rfl)];rfl
theorem pg_store (hgd:o.guard=none)(x y:Operand)(ho:o.op = .store 308 x y)(hx:a.eval x = .pointer (some ⟨g,0,none⟩))(hy:a.eval y = .agg C')(hb:Blok w g t C)(hC:C.size=60)(hC':C'.size=60)(h1:C'.all (·.oneCell')=true)
  (h:wpList Tryz.prog ops Q rest (a.put o.dst undef) (w.setRow g C')):wpList Tryz.prog ops Q (o::rest) a w :=
 wpList_store_row hgd _ x y ho g C' hx hy t C hb (by rw[hC'];exact infoPg) (by rw[hC,hC']) h1 h
theorem pg_load (hgd:o.guard=none)(x:Operand)(ho:o.op = .load 308 x)(hx:a.eval x = .pointer (some ⟨g,0,none⟩))(hb:Blok w g t C)(hC:C.size=60)
  (h:wpList Tryz.prog ops Q rest (a.put o.dst (.agg C)) w):wpList Tryz.prog ops Q (o::rest) a w :=
 wpList_load_row hgd _ x ho g hx t C (0,0) _ hb Tryz.underlying308 rfl (by rw[hC];exact infoPg) h
theorem pg_copied {w':World}{s:ByteArray}{v' vs:Value}(hgd:o.guard=none)(x y:Operand)(ho:o.op = .call { callee:=.builtin .copy,args:=#[x,y],argTypes:=#[109,9] })(hx:a.eval x=vs)(hy:a.eval y = .string s)
  (hr:∀ ty,(Builtin.copy_ #[109,9] ty #[vs,.string s]).run Tryz.prog w = .ok v' w')
  (h:wpList Tryz.prog ops Q rest (a.put o.dst v') w'):wpList Tryz.prog ops Q (o::rest) a w:=by
 refine wpList_plain hgd fun K' hK'=>?_
 unfold Oper.wp execOp;simp only[ho,resolve,invoke,builtin,Sem.run_bind,Sem.run_pure,Result.andThen_ok,List.map_toArray,List.map_cons,List.map_nil,hx,hy,hr];exact hK' _ _ h
theorem pg_ret {fn:Func}{R:Ending→World→Prop}{p u:Tmp}{q:Bool}(hf:fn.results=#[.cell p 308,.tmp u])(hp:a.tmps.getD p undef = .pointer (some ⟨g,0,none⟩))(hu:a.tmps.getD u undef = .bool q)(hb:Blok w g t C)(hC:C.size=60)(hd:a.defers=[])
  (hR:R (.returned (.tuple #[.agg C,.bool q])) w):bodyPost Tryz.prog fn R .ret a w:=by
 refine bodyPost_ret ?_ hd hR;rw[results_cell_tmp hf,hp,hu];simp only[asAddr,Sem.run_pure,Result.andThen_ok];rw[run_loadVar_row w g t 308 C (0,0) _ hb Tryz.underlying308 rfl (by rw[hC];exact infoPg)];rfl
theorem infoFl : (Tryz.prog.info? 217).map (·.size)=some 3:=by kernel_rfl
theorem fl_ret {fn:Func}{R:Ending→World→Prop}{p:Tmp}(hf:fn.results=#[.cell p 217])(hp:a.tmps.getD p undef = .pointer (some ⟨g,0,none⟩))(hb:Blok w g t C)(hC:C.size=3)(hd:a.defers=[])
  (hR:R (.returned (.agg C)) w):bodyPost Tryz.prog fn R .ret a w :=
 bodyPost_ret (results_cell_row hf _ w g t C (0,0) _ hp hb Tryz.underlying217 rfl (by rw[hC];exact infoFl)) hd hR
end
end Go.Proofs.YtokbfellcadkpaaGreat
namespace Go.Proofs.YtokbfellcadkpaaGreat
set_option maxRecDepth 100000
set_option linter.unusedVariables false
section
open Go.RowKit
def pgL (t:ByteArray)(j:Nat) : List UInt8:=if pgW t j=true then(pgT t j).data.toList.take 60 else List.replicate 60 0
theorem opA_pg {t:ByteArray}{j:Nat}(h:pgW t j=true) : (opA (pgT t j)).data.toList=pgL t j∧(opA (pgT t j)).size=60:=by
 obtain⟨h1,h2⟩:=pgW_iff.1 h;have hz:=pgT_size h1;unfold opA pgL;rw[if_pos h2,if_pos h,hz];refine⟨by rw[sl_ext];rfl,by rw[ByteArray.size_extract,hz];rfl⟩
set_option maxRecDepth 100000 in
theorem page_none (Z:Array Value)(hZ:pgZ=Z)(t:ByteArray)(y:Nat)(j:Int)(w:World)(hj:0≤j∧j≤100000)(hy:j*64=y)(hs:t.size≤1100000)(h:(t.size:Int)<(y:Int)+64) :
  Calls Tryz.prog 266 #[.string t,.int .i64 j] w fun e w'=>e = .returned (.tuple #[.agg Z,.bool false])∧Below w.heap.size w w':=by
 have z1:Z.size=60:=by rw[← hZ];exact pgZ_size
 have z2:Z.all (·.oneCell')=true:=by rw[← hZ];exact pgZ_one
 have hB:=Lib.hid (Blok.new w 308 Z);have hb:=Lib.hid ((Below.refl w.heap.size w).alloc (Nat.le_refl _) (.cells Z 308));go_enter Tryz.func266,Tryz.ntmps266
 go_wp2_with (first
  | (refine pg_alloc hZ rfl _ rfl rfl ?_)
  | (refine pg_zero hZ rfl _ rfl rfl ?_)
  | (refine pg_store rfl _ _ rfl rfl rfl hB.out z1 z1 z2 ?_))
 refine pg_ret rfl rfl rfl (hB.out.row Z) z1 rfl ?_;exact⟨rfl,below_row hb.out (Nat.le_refl _) Z⟩
set_option maxRecDepth 100000 in
theorem page_some (Z:Array Value)(hZ:pgZ=Z)(t s:ByteArray)(y:Nat)(j:Int)(q:Bool)(C:Array Value)(w:World)(hj:0≤j∧j≤100000)(hy:j*64=y)(hs:t.size≤1100000)(h:(y:Int)+64≤(t.size:Int))
  (hO:∀ W,Calls Tryz.prog 151 #[.string (t.extract y (y+64))] W fun e w'=>e = .returned (.tuple #[.string s,.bool q])∧Below W.heap.size W w')
  (hcase:(s=ByteArray.empty∧C=Z)∨(s.size=60∧C=pgC s.data.toList)) :
  Calls Tryz.prog 266 #[.string t,.int .i64 j] w fun e w'=>e = .returned (.tuple #[.agg C,.bool q])∧Below w.heap.size w w':=by
 have z1:Z.size=60:=by rw[← hZ];exact pgZ_size
 have z2:Z.all (·.oneCell')=true:=by rw[← hZ];exact pgZ_one
 have hB:=Lib.hid (Blok.new w 308 Z);have hb:=Lib.hid ((Below.refl w.heap.size w).alloc (Nat.le_refl _) (.cells Z 308));have HO:=Lib.hid hO
 have hC:∀ W,Blok W w.heap.size 308 Z→Below w.heap.size w W→∃ v W',(∀ ty,(Builtin.copy_ #[109,9] ty #[.slice (some ⟨w.heap.size,0,none⟩) 60 60,.string s]).run Tryz.prog W = .ok v W')∧Blok W' w.heap.size 308 C∧Below w.heap.size w W'∧C.size=60∧C.all (·.oneCell')=true:=by
  intro W hW hbW;rcases hcase with⟨rfl,rfl⟩ | ⟨h60,rfl⟩
  ·exact⟨_,_,fun ty=>pg_copy0 W _ ty,hW,hbW,z1,z2⟩
  ·exact⟨_,_,fun ty=>pg_copy hW z1 s h60 ty,hW.row _,below_row hbW (Nat.le_refl _) _,by rw[pgC_size,sl_size,h60],pgC_one _⟩
 have HC:=Lib.hid hC;clear hcase hO hC;go_enter Tryz.func266,Tryz.ntmps266
 go_wp2_with (first
  | (refine pg_alloc hZ rfl _ rfl rfl ?_)
  | (refine(HO.out _).mono ?_;rintro e w1 ⟨rfl,b1⟩;obtain⟨v,W',e1,e2,e3,e4,e5⟩:=HC.out w1 ((b1.block _ hB.out.lt).trans hB.out) (hb.out.trans (b1.mono hb.out.size));have E2:=Lib.hid e2;have E3:=Lib.hid e3;clear e2 e3)
  | (refine pg_copied rfl _ _ rfl rfl rfl e1 ?_)
  | (refine pg_load rfl _ rfl rfl E2.out e4 ?_)
  | (refine pg_store rfl _ _ rfl rfl rfl E2.out e4 e4 e5 ?_))
 refine pg_ret rfl rfl rfl (E2.out.row C) e4 rfl ?_;exact⟨rfl,below_row E3.out (Nat.le_refl _) C⟩
theorem page_any (t:ByteArray)(j:Nat)(w:World)(hj:j≤100000)(hs:t.size≤1100000) :
  Calls Tryz.prog 266 #[.string t,.int .i64 (j:Nat)] w fun e w'=>e = .returned (.tuple #[pgV (pgL t j),.bool (pgW t j)])∧Below w.heap.size w w':=by
 by_cases h:64*j+64≤t.size
 ·have hO:=fun W=>open_any (t.extract (64*j) (64*j+64)) W (by rw[ByteArray.size_extract];unfold maxLen;omega)
  have hw:pgW t j=opOk (pgT t j):=by unfold pgW;rw[decide_eq_true h,Bool.true_and]
  rw[hw];refine page_some pgZ rfl t (opA (pgT t j)) (64*j) (j:Int) (opOk (pgT t j)) (pgC (pgL t j)) w (by omega) (by omega) hs (by omega) hO ?_;by_cases ho:opOk (pgT t j)=true
  ·obtain⟨h1,h2⟩:=opA_pg (t:=t) (j:=j) (hw.trans ho);exact Or.inr ⟨h2,by rw[h1]⟩
  ·refine Or.inl ⟨by unfold opA;rw[if_neg ho], ?_⟩;unfold pgL pgZ;rw[if_neg (by rw[hw];exact ho)]
 ·have hw:pgW t j=false:=by unfold pgW;rw[decide_eq_false h,Bool.false_and]
  have hl:pgL t j=List.replicate 60 0:=by unfold pgL;rw[hw];rfl
  rw[hw,hl];exact page_none pgZ rfl t (64*j) (j:Int) w (by omega) (by omega) hs (by omega)
theorem pgL_length (t:ByteArray)(j:Nat) : (pgL t j).length=60:=by
 unfold pgL;split
 ·rename_i h;have:=pgB_length (t:=t) (k:=j-1);rw[List.length_take,sl_size,pgT_size (pgW_iff.1 h).1];decide
 ·rw[List.length_replicate]
theorem pgL_yes {t:ByteArray}{k:Nat}(h:pgW t (k+1)=true) : pgL t (k+1)=pgB t k:=by unfold pgL pgB;rw[if_pos h]
end
end Go.Proofs.YtokbfellcadkpaaGreat

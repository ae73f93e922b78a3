/- Operations on a page, which is sixty cells, each as one step: so no walk spells them out. -/
import Derived.Test.YtfnppmiapjhjlaaPgMem
import Derived.Test.YtfnppmiapjhjlaaOwn
import Derived.Laws.CopyRow
import Derived.Laws.Rows
import Derived.Laws.ResultCell
import Derived.Great.Walk
namespace Go.Proofs.Ytfnppmiapjhjlaa
open Go.RowKit Go.Great
set_option linter.unusedVariables false

theorem pg_info : (Try.prog.info? 5).map (fun i => (i.zero, i.size, i.bytes)) = some (some (.int .u8 0), 1, 1) := by kernel_rfl
section
variable {w w' : World} {g : Nat} {t : TypeId} {C C' : Array Value}
/-- A block that is known whole, written. -/
theorem blk_store (h : Blok w g t C) (hn : C.size = C'.size) (h1 : C'.all (·.oneCell') = true) : (storeCells ⟨g, 0, none⟩ C'.toList 0).run Try.prog w = .ok () (w.setRow g C') := by
  have h2 := run_storeCells_from (P := Try.prog) g t C'.toList 0 C w h (by simp [hn]) (fun v hv => by
    rw [← Array.all_toList, List.all_eq_true] at h1
    exact h1 v hv)
  rw [h2]
  simp
theorem Blok.after {w w' : World} {g : Nat} {t : TypeId} {cs : Array Value} (h : Blok w g t cs) (hb : Below w.heap.size w w') : Blok w' g t cs := (hb.block _ h.lt).trans h
theorem Blok.row (h : Blok w g t C) (C' : Array Value) : Blok (w.setRow g C') g t C' := setRow_heap w g C C' t (0, 0) h
theorem below_row {B : Nat} (h : Below B w w') (hg : B ≤ g) (C' : Array Value) : Below B w (w'.setRow g C') :=
  ⟨h.os, h.tape, h.output, by simpa [World.setRow] using h.size, fun k hk => (setRow_other w' g k C' (by omega)).trans (h.block k hk)⟩
/-- Sixty bytes, copied over a page. -/
theorem pg_copy (h : Blok w g t C) (hC : C.size = 60) (s : ByteArray) (hs : s.size = 60) (ty : TypeId) : (Builtin.copy_ #[36, 9] ty #[.slice (some ⟨g, 0, none⟩) 60 60, .string s]).run Try.prog w = .ok (.int .i64 60) (w.setRow g (pgC s.data.toList)) := by
  obtain ⟨i, hi, _, hz1, _⟩ := info_parts pg_info
  have hl : s.data.toList.length = 60 := by rw [dl_size, hs]
  have hst := blk_store h (C' := pgC s.data.toList) (by rw [hC, pgC_size, hl]) (pgC_one _)
  have hfc : (Builtin.firstCells 1 60 (.string s)).run Try.prog w = .ok (pgC s.data.toList) w := by
    show (pure (((s.extract 0 60).data.map fun b => Value.int .u8 b.toNat)) : Sem (Array Value)).run Try.prog w = _
    rw [Sem.run_pure, show s.extract 0 60 = s by rw [ext_bs, List.drop_zero, List.take_of_length_le (by omega), bs_data]]
    congr 1
    apply Array.ext'
    unfold pgC
    rw [Array.toList_map]
  have hm : Nat.min s.size 60 = 60 := by rw [hs]; rfl
  simp [Builtin.copy_, run_underlying Try.underlying36, Builtin.lenOf, sizeOf, typeInfo, hi, hz1, hm, hfc, hst, goInt]
theorem pg_copy0 (w : World) (A : Option Addr) (ty : TypeId) : (Builtin.copy_ #[36, 9] ty #[.slice A 60 60, .string ByteArray.empty]).run Try.prog w = .ok (.int .i64 0) w := by
  obtain ⟨i, hi, _, hz1, _⟩ := info_parts pg_info
  have hfc : (Builtin.firstCells 1 0 (.string ByteArray.empty)).run Try.prog w = .ok #[] w := by
    show (pure (((ByteArray.empty.extract 0 0).data.map fun b => Value.int .u8 b.toNat)) : Sem (Array Value)).run Try.prog w = _
    rw [Sem.run_pure, show ByteArray.empty.extract 0 0 = ByteArray.empty by decide]
    exact congrArg (fun x => Result.ok x w) Array.map_empty
  cases A <;> simp [Builtin.copy_, run_underlying Try.underlying36, Builtin.lenOf, sizeOf, typeInfo, hi, hz1, hfc, storeCells, goInt]
end

/-- A page of nothing. -/
def pgZ : Array Value := pgC (List.replicate 60 0)
theorem pgZ_size : pgZ.size = 60 := rfl
theorem pgZ_one : pgZ.all (·.oneCell') = true := pgC_one _
section
variable {ops : Array Oper} {rest : List Oper} {o : Oper} {a : Act} {w : World} {Q : Exit → Act → World → Prop} {Z C C' : Array Value} {g : Nat} {t : TypeId}
theorem pg_alloc (hZ : pgZ = Z) (hgd : o.guard = none) (dst : Option Tmp) (hdst : o.dst = dst) (ho : o.op = .alloc 63)
    (h : wpList Try.prog ops Q rest (a.put dst (.pointer (some ⟨w.heap.size, 0, none⟩))) (w.alloc (.cells Z 63))) : wpList Try.prog ops Q (o :: rest) a w := by
  subst hZ
  refine wpList_runTo hgd dst hdst _ _ ?_ h
  unfold execOp
  simp only [ho, Sem.run_bind, Instr.alloc, zeroPg, Result.andThen_ok]
  rfl
theorem pg_zero (hZ : pgZ = Z) (hgd : o.guard = none) (dst : Option Tmp) (hdst : o.dst = dst) (ho : o.op = .build 63 #[])
    (h : wpList Try.prog ops Q rest (a.put dst (.agg Z)) w) : wpList Try.prog ops Q (o :: rest) a w := by
  subst hZ
  refine wpList_runTo hgd dst hdst _ _ ?_ h
  unfold execOp
  simp only [ho, Sem.run_bind, List.map_toArray, List.map_nil]
  rw [run_build w 63 #[] pgZ (by kernel_rfl)]
  rfl
theorem pg_store (hgd : o.guard = none) (x y : Operand) (ho : o.op = .store 63 x y) (hx : a.eval x = .pointer (some ⟨g, 0, none⟩)) (hy : a.eval y = .agg C') (hb : Blok w g t C) (hC : C.size = 60) (hC' : C'.size = 60) (h1 : C'.all (·.oneCell') = true)
    (h : wpList Try.prog ops Q rest (a.put o.dst undef) (w.setRow g C')) : wpList Try.prog ops Q (o :: rest) a w :=
  wpList_store_row hgd _ x y ho g C' hx hy t C hb (by rw [hC']; exact infoPg) (by rw [hC, hC']) h1 h
theorem pg_load (hgd : o.guard = none) (x : Operand) (ho : o.op = .load 63 x) (hx : a.eval x = .pointer (some ⟨g, 0, none⟩)) (hb : Blok w g t C) (hC : C.size = 60)
    (h : wpList Try.prog ops Q rest (a.put o.dst (.agg C)) w) : wpList Try.prog ops Q (o :: rest) a w :=
  wpList_load_row hgd _ x ho g hx t C (0, 0) _ hb Try.underlying63 rfl (by rw [hC]; exact infoPg) h
theorem pg_copied {w' : World} {s : ByteArray} {v' vs : Value} (hgd : o.guard = none) (x y : Operand) (ho : o.op = .call { callee := .builtin .copy, args := #[x, y], argTypes := #[36, 9] }) (hx : a.eval x = vs) (hy : a.eval y = .string s)
    (hr : ∀ ty, (Builtin.copy_ #[36, 9] ty #[vs, .string s]).run Try.prog w = .ok v' w')
    (h : wpList Try.prog ops Q rest (a.put o.dst v') w') : wpList Try.prog ops Q (o :: rest) a w := by
  refine wpList_plain hgd fun K' hK' => ?_
  unfold Oper.wp execOp
  simp only [ho, resolve, invoke, builtin, Sem.run_bind, Sem.run_pure, Result.andThen_ok, List.map_toArray, List.map_cons, List.map_nil, hx, hy, hr]
  exact hK' _ _ h
theorem pg_ret {fn : Func} {R : Ending → World → Prop} {p u : Tmp} {q : Bool} (hf : fn.results = #[.cell p 63, .tmp u]) (hp : a.tmps.getD p undef = .pointer (some ⟨g, 0, none⟩)) (hu : a.tmps.getD u undef = .bool q) (hb : Blok w g t C) (hC : C.size = 60) (hd : a.defers = [])
    (hR : R (.returned (.tuple #[.agg C, .bool q])) w) : bodyPost Try.prog fn R .ret a w := by
  refine bodyPost_ret ?_ hd hR
  rw [results_cell_tmp hf, hp, hu]
  simp only [asAddr, Sem.run_pure, Result.andThen_ok]
  rw [run_loadVar_row w g t 63 C (0, 0) _ hb Try.underlying63 rfl (by rw [hC]; exact infoPg)]
  rfl
theorem infoFl : (Try.prog.info? 28).map (·.size) = some 3 := by kernel_rfl
theorem fl_store (hgd : o.guard = none) (x y : Operand) (ho : o.op = .store 28 x y) (hx : a.eval x = .pointer (some ⟨g, 0, none⟩)) (hy : a.eval y = .agg C') (hb : Blok w g t C) (hC : C.size = 3) (hC' : C'.size = 3) (h1 : C'.all (·.oneCell') = true)
    (h : wpList Try.prog ops Q rest (a.put o.dst undef) (w.setRow g C')) : wpList Try.prog ops Q (o :: rest) a w :=
  wpList_store_row hgd _ x y ho g C' hx hy t C hb (by rw [hC']; exact infoFl) (by rw [hC, hC']) h1 h
theorem fl_zero (hgd : o.guard = none) (dst : Option Tmp) (hdst : o.dst = dst) (ho : o.op = .build 28 #[])
    (h : wpList Try.prog ops Q rest (a.put dst (.agg #[.int .i64 0, .int .i64 0, .map none])) w) : wpList Try.prog ops Q (o :: rest) a w := by
  refine wpList_runTo hgd dst hdst _ _ ?_ h
  unfold execOp
  simp only [ho, Sem.run_bind, List.map_toArray, List.map_nil]
  rw [run_build w 28 #[] #[.int .i64 0, .int .i64 0, .map none] (by kernel_rfl)]
  rfl
theorem fl_made {p n : Int} {mb : Option Nat} (hgd : o.guard = none) (dst : Option Tmp) (hdst : o.dst = dst) (x y z : Operand) (ho : o.op = .build 28 #[(0, x), (1, y), (2, z)]) (hx : a.eval x = .int .i64 p) (hy : a.eval y = .int .i64 n) (hz : a.eval z = .map mb)
    (h : wpList Try.prog ops Q rest (a.put dst (.agg #[.int .i64 p, .int .i64 n, .map mb])) w) : wpList Try.prog ops Q (o :: rest) a w := by
  refine wpList_runTo hgd dst hdst _ _ ?_ h
  unfold execOp
  simp only [ho, Sem.run_bind, List.map_toArray, List.map_cons, List.map_nil, hx, hy, hz]
  rw [run_build w 28 #[(0, .int .i64 p), (1, .int .i64 n), (2, .map mb)] #[.int .i64 p, .int .i64 n, .map mb] (by kernel_rfl)]
  rfl
theorem fl_load (hgd : o.guard = none) (x : Operand) (ho : o.op = .load 28 x) (hx : a.eval x = .pointer (some ⟨g, 0, none⟩)) (hb : Blok w g t C) (hC : C.size = 3)
    (h : wpList Try.prog ops Q rest (a.put o.dst (.agg C)) w) : wpList Try.prog ops Q (o :: rest) a w :=
  wpList_load_row hgd _ x ho g hx t C (0, 0) _ hb Try.underlying28 rfl (by rw [hC]; exact infoFl) h
theorem fl_ret {fn : Func} {R : Ending → World → Prop} {p : Tmp} (hf : fn.results = #[.cell p 28]) (hp : a.tmps.getD p undef = .pointer (some ⟨g, 0, none⟩)) (hb : Blok w g t C) (hC : C.size = 3) (hd : a.defers = [])
    (hR : R (.returned (.agg C)) w) : bodyPost Try.prog fn R .ret a w :=
  bodyPost_ret (results_cell_row hf _ w g t C (0, 0) _ hp hb Try.underlying28 rfl (by rw [hC]; exact infoFl)) hd hR
end
end Go.Proofs.Ytfnppmiapjhjlaa

/- DiskRefFail, DiskRefRead, DiskRefCut, DiskRefNames, DiskRefCreate -/
import Derived.Test.YtedbgimmbapfaaaGreatPk07
import Derived.Deep.DeepCutAuto
/- DiskRefFail -/
namespace Go.Proofs.YtedbgimmbapfaaaGreat
open Go.RowKit
set_option linter.unusedVariables false

section
variable {P : Program}
/-- append, where its run is known. -/
theorem wpList_append_run {ops : Array Oper} {rest : List Oper} {o : Oper} {a : Act} {w w' : World} {Q : Exit → Act → World → Prop} {vs vx v' : Value} (hgd : o.guard = none) (s x : Operand) (t : TypeId)
    (ho : o.op = .call { callee := .builtin .append, args := #[s, x], argTypes := #[t, t] }) (hs : a.eval s = vs) (hx : a.eval x = vx)
    (hr : (Builtin.append_ #[t, t] o.type #[vs, vx]).run P w = .ok v' w') (h : wpList P ops Q rest (a.put o.dst v') w') : wpList P ops Q (o :: rest) a w := by
  refine wpList_plain hgd fun K hK => ?_
  unfold Oper.wp execOp
  simp only [ho, resolve, invoke, builtin, Sem.run_bind, Sem.run_pure, Result.andThen_ok, List.map_toArray, List.map_cons, List.map_nil, hs, hx, hr]
  exact hK _ _ h
end
end Go.Proofs.YtedbgimmbapfaaaGreat

/- DiskRefRead -/
namespace Go.Proofs.YtedbgimmbapfaaaGreat
open Go.RowKit
set_option linter.unusedVariables false

theorem readS_down {D : DiskS} {n : ByteArray} {a k : Int} (hd : D.down = true) : readS D n a k = (ByteArray.empty, 61, D) := by
  unfold readS
  rw [if_pos hd]
def readE (D : DiskS) : DiskS := { D with count := D.count + 1 }
theorem readS_none {D : DiskS} {n : ByteArray} {a k : Int} (hd : D.down = false) (hf : ¬ findS D.l n < D.l.length) : readS D n a k = (ByteArray.empty, 4, readE D) := by
  unfold readS
  rw [if_neg (by rw [hd]; decide)]
  simp only [none_at hf]
  rfl
theorem readS_bad {D : DiskS} {n : ByteArray} {a k : Int} {f : FileS} (hd : D.down = false) (hf : D.l[findS D.l n]? = some f) (hb : a < 0 ∨ k < 0 ∨ (f.data.size : Int) < a ∨ (f.data.size : Int) - a < k) : readS D n a k = (ByteArray.empty, 2, readE D) := by
  unfold readS
  rw [if_neg (by rw [hd]; decide)]
  simp only [hf]
  rw [if_pos hb]
  rfl
theorem readS_go {D : DiskS} {n : ByteArray} {a k : Int} {f : FileS} (hd : D.down = false) (hf : D.l[findS D.l n]? = some f) (hb : ¬ (a < 0 ∨ k < 0 ∨ (f.data.size : Int) < a ∨ (f.data.size : Int) - a < k)) : readS D n a k = (f.data.extract a.toNat (a.toNat + k.toNat), 0, readE D) := by
  unfold readS
  rw [if_neg (by rw [hd]; decide)]
  simp only [hf]
  rw [if_neg hb]
  rfl

end Go.Proofs.YtedbgimmbapfaaaGreat

/- DiskRefCut -/
namespace Go.Proofs.YtedbgimmbapfaaaGreat
open Go.RowKit
set_option linter.unusedVariables false

def cutE (D : DiskS) (n : ByteArray) (k : Int) : DiskS := { D with l := setF D.l (findS D.l n) (fun f => ⟨f.name, f.data.extract 0 (min k.toNat f.data.size), min f.synced (min k.toNat f.data.size)⟩) }
theorem cutS_go {D : DiskS} {n : ByteArray} {k : Int} (hf : findS D.l n < D.l.length) (hk : ¬ k < 0) : cutS D n k = (0, cutE D n k) := by
  unfold cutS
  rw [if_pos hf, if_neg hk]
  rfl
theorem cutS_arg {D : DiskS} {n : ByteArray} {k : Int} (hf : findS D.l n < D.l.length) (hk : k < 0) : cutS D n k = (2, D) := by
  unfold cutS
  rw [if_pos hf, if_pos hk]
theorem cutS_none {D : DiskS} {n : ByteArray} {k : Int} (hf : ¬ findS D.l n < D.l.length) : cutS D n k = (4, D) := by
  unfold cutS
  rw [if_neg hf]
theorem cut_eq (l : List FileS) (i : Nat) (f : FileS) (h : l[i]? = some f) (m : Int) :
    setF (setF l i (fun x => { x with data := f.data.extract 0 (min m.toNat f.data.size) })) i (fun x => { x with synced := min f.synced (min m.toNat f.data.size) }) = setF l i (fun f => ⟨f.name, f.data.extract 0 (min m.toNat f.data.size), min f.synced (min m.toNat f.data.size)⟩) := by
  apply List.ext_getElem?
  intro j
  rw [setF_get, setF_get, setF_get]
  by_cases e : j = i
  · subst e; rw [if_pos rfl, if_pos rfl, if_pos rfl, h]; rfl
  · rw [if_neg e, if_neg e, if_neg e]
theorem min_int {P : Program} (x y : Int) (m : Nat) (h : (m : Int) = if y < x then y else x) : ∀ ts t w, (Builtin.min_ ts t #[.int .i64 x, .int .i64 y]).run P w = .ok (.int .i64 (m : Nat)) w := fun ts t w => by
  rw [run_min_int2, h]

end Go.Proofs.YtedbgimmbapfaaaGreat

/- DiskRefNames -/
namespace Go.Proofs.YtedbgimmbapfaaaGreat
open Go.RowKit
set_option linter.unusedVariables false

theorem deleteS_go {D : DiskS} {n : ByteArray} (hd : D.down = false) (hf : findS D.l n < D.l.length) : deleteS D n = if goesS D then (0, { nextS D with l := dropS D.l (findS D.l n) }) else (61, sinkS D D.keep) := by
  unfold deleteS doneS
  rw [if_neg (by rw [hd]; decide), if_pos hf]
  rfl
theorem deleteS_none {D : DiskS} {n : ByteArray} (hd : D.down = false) (hf : ¬ findS D.l n < D.l.length) : deleteS D n = (4, D) := by
  unfold deleteS
  rw [if_neg (by rw [hd]; decide), if_neg hf]
theorem deleteS_down {D : DiskS} {n : ByteArray} (hd : D.down = true) : deleteS D n = (61, D) := by
  unfold deleteS
  rw [if_pos hd]
end Go.Proofs.YtedbgimmbapfaaaGreat

/- DiskRefCreate -/
namespace Go.Proofs.YtedbgimmbapfaaaGreat
open Go.RowKit
set_option linter.unusedVariables false

theorem createS_down {D : DiskS} {n : ByteArray} (hd : D.down = true) : createS D n = (61, D) := by
  unfold createS
  rw [if_pos hd]
theorem createS_arg {D : DiskS} {n : ByteArray} (hd : D.down = false) (hn : nameB n = false) : createS D n = (2, D) := by
  unfold createS
  rw [if_neg (by rw [hd]; decide), hn, if_pos (by decide)]
theorem createS_have {D : DiskS} {n : ByteArray} (hd : D.down = false) (hn : nameB n = true) (hf : findS D.l n < D.l.length) : createS D n = (62, D) := by
  unfold createS
  rw [if_neg (by rw [hd]; decide), hn, if_neg (by decide), if_pos hf]
theorem createS_full {D : DiskS} {n : ByteArray} (hd : D.down = false) (hn : nameB n = true) (hf : ¬ findS D.l n < D.l.length) (hm : 400 ≤ D.l.length) : createS D n = (60, D) := by
  unfold createS
  rw [if_neg (by rw [hd]; decide), hn, if_neg (by decide), if_neg hf, if_pos hm]
theorem createS_go {D : DiskS} {n : ByteArray} (hd : D.down = false) (hn : nameB n = true) (hf : ¬ findS D.l n < D.l.length) (hm : ¬ 400 ≤ D.l.length) :
    createS D n = if goesS D then (0, { nextS D with l := layS D.l ⟨n, ByteArray.empty, 0⟩ }) else (61, sinkS D D.keep) := by
  unfold createS doneS
  rw [if_neg (by rw [hd]; decide), hn, if_neg (by decide), if_neg hf, if_neg hm]
  rfl

end Go.Proofs.YtedbgimmbapfaaaGreat

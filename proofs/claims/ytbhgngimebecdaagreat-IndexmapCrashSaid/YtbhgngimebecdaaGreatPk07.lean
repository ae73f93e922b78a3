/- DiskRefFail, DiskRefRead, DiskRefCut, DiskRefSpoil -/
import Derived.Test.YtbhgngimebecdaaGreatPk04
import Derived.Deep.DeepCutAuto
import Derived.Test.YtbhgngimebecdaaGreatPk01
/- DiskRefFail -/
namespace Go.Proofs.YtbhgngimebecdaaGreat
open Go.RowKit
set_option linter.unusedVariables false

section
variable {P : Program}
/-- append, where its run is known. -/
theorem wpList_append_run {ops : Array Oper} {rest : List Oper} {o : Oper} {a : Act} {w w' : World} {Q : Exit → Act → World → Prop} {vs vx v' : Value} (hgd : o.guard = none) (s x : Operand) (t : TypeId)
    (ho : o.op = .call { callee := .builtin .append, args := #[s, x], argTypes := #[t, t] }) (hs : a.eval s = vs) (hx : a.eval x = vx)
    (hr : (Builtin.append_ #[t, t] o.type #[vs, vx]).run P w = .ok v' w') (h : wpList P ops Q rest (a.put o.dst v') w') : wpList P ops Q (o :: rest) a w := by
  refine wpList_plain hgd fun K hK => ?_
  unfold Oper.wp execOp
  simp only [ho, resolve, invoke, builtin, Sem.run_bind, Sem.run_pure, Result.andThen_ok, List.map_toArray, List.map_cons, List.map_nil, hs, hx, hr]
  exact hK _ _ h
end
end Go.Proofs.YtbhgngimebecdaaGreat

/- DiskRefRead -/
namespace Go.Proofs.YtbhgngimebecdaaGreat
open Go.RowKit
set_option linter.unusedVariables false

theorem readS_down {D : DiskS} {n : ByteArray} {a k : Int} (hd : D.down = true) : readS D n a k = (ByteArray.empty, 61, D) := by
  unfold readS
  rw [if_pos hd]
def readE (D : DiskS) : DiskS := { D with count := D.count + 1 }
theorem readS_none {D : DiskS} {n : ByteArray} {a k : Int} (hd : D.down = false) (hf : ¬ findS D.l n < D.l.length) : readS D n a k = (ByteArray.empty, 4, readE D) := by
  unfold readS
  rw [if_neg (by rw [hd]; decide)]
  simp only [none_at hf]
  rfl
theorem readS_bad {D : DiskS} {n : ByteArray} {a k : Int} {f : FileS} (hd : D.down = false) (hf : D.l[findS D.l n]? = some f) (hb : a < 0 ∨ k < 0 ∨ (f.data.size : Int) < a ∨ (f.data.size : Int) - a < k) : readS D n a k = (ByteArray.empty, 2, readE D) := by
  unfold readS
  rw [if_neg (by rw [hd]; decide)]
  simp only [hf]
  rw [if_pos hb]
  rfl
theorem readS_go {D : DiskS} {n : ByteArray} {a k : Int} {f : FileS} (hd : D.down = false) (hf : D.l[findS D.l n]? = some f) (hb : ¬ (a < 0 ∨ k < 0 ∨ (f.data.size : Int) < a ∨ (f.data.size : Int) - a < k)) : readS D n a k = (f.data.extract a.toNat (a.toNat + k.toNat), 0, readE D) := by
  unfold readS
  rw [if_neg (by rw [hd]; decide)]
  simp only [hf]
  rw [if_neg hb]
  rfl

end Go.Proofs.YtbhgngimebecdaaGreat

/- DiskRefCut -/
namespace Go.Proofs.YtbhgngimebecdaaGreat
open Go.RowKit
set_option linter.unusedVariables false

def cutE (D : DiskS) (n : ByteArray) (k : Int) : DiskS := { D with l := setF D.l (findS D.l n) (fun f => ⟨f.name, f.data.extract 0 (min k.toNat f.data.size), min f.synced (min k.toNat f.data.size)⟩) }
theorem cutS_go {D : DiskS} {n : ByteArray} {k : Int} (hf : findS D.l n < D.l.length) (hk : ¬ k < 0) : cutS D n k = (0, cutE D n k) := by
  unfold cutS
  rw [if_pos hf, if_neg hk]
  rfl
theorem cutS_arg {D : DiskS} {n : ByteArray} {k : Int} (hf : findS D.l n < D.l.length) (hk : k < 0) : cutS D n k = (2, D) := by
  unfold cutS
  rw [if_pos hf, if_pos hk]
theorem cutS_none {D : DiskS} {n : ByteArray} {k : Int} (hf : ¬ findS D.l n < D.l.length) : cutS D n k = (4, D) := by
  unfold cutS
  rw [if_neg hf]
theorem cut_eq (l : List FileS) (i : Nat) (f : FileS) (h : l[i]? = some f) (m : Int) :
    setF (setF l i (fun x => { x with data := f.data.extract 0 (min m.toNat f.data.size) })) i (fun x => { x with synced := min f.synced (min m.toNat f.data.size) }) = setF l i (fun f => ⟨f.name, f.data.extract 0 (min m.toNat f.data.size), min f.synced (min m.toNat f.data.size)⟩) := by
  apply List.ext_getElem?
  intro j
  rw [setF_get, setF_get, setF_get]
  by_cases e : j = i
  · subst e; rw [if_pos rfl, if_pos rfl, if_pos rfl, h]; rfl
  · rw [if_neg e, if_neg e, if_neg e]
theorem min_int {P : Program} (x y : Int) (m : Nat) (h : (m : Int) = if y < x then y else x) : ∀ ts t w, (Builtin.min_ ts t #[.int .i64 x, .int .i64 y]).run P w = .ok (.int .i64 (m : Nat)) w := fun ts t w => by
  rw [run_min_int2, h]

end Go.Proofs.YtbhgngimebecdaaGreat

/- DiskRefSpoil -/
namespace Go.Proofs.YtbhgngimebecdaaGreat
open Go.RowKit
set_option linter.unusedVariables false

theorem spoilS_none {D : DiskS} {n : ByteArray} {a : Int} {s : ByteArray} (hf : ¬ findS D.l n < D.l.length) : spoilS D n a s = (4, D) := by
  unfold spoilS
  rw [if_neg hf]
theorem spoilS_arg {D : DiskS} {n : ByteArray} {a : Int} {s : ByteArray} (hf : findS D.l n < D.l.length) (ha : a < 0) : spoilS D n a s = (2, D) := by
  unfold spoilS
  rw [if_pos hf, if_pos ha]
theorem spoilS_go {D : DiskS} {n : ByteArray} {a : Int} {s : ByteArray} (hf : findS D.l n < D.l.length) (ha : ¬ a < 0) : spoilS D n a s = (0, { D with l := setF D.l (findS D.l n) (fun f => { f with data := overS f.data s a.toNat }) }) := by
  unfold spoilS
  rw [if_pos hf, if_neg ha]
theorem spoil_eq (l : List FileS) (k : Nat) (f : FileS) (s : ByteArray) (a : Nat) (h : l[k]? = some f) : setF l k (fun x => { x with data := overS f.data s a }) = setF l k (fun f => { f with data := overS f.data s a }) := by
  apply List.ext_getElem?
  intro j
  rw [setF_get, setF_get]
  by_cases e : j = k
  · subst e; rw [if_pos rfl, if_pos rfl, h]; rfl
  · rw [if_neg e, if_neg e]
theorem overK_length (d s : ByteArray) (a k : Nat) : (overK d s a k).length = d.size := by
  unfold overK
  rw [List.length_mapIdx]
  exact Array.length_toList
theorem overK_at (d s : ByteArray) (a k j : Nat) (hj : j < d.size) : (overK d s a k).getD j 0 = if a ≤ j ∧ j < a + min k s.size then s.data.toList.getD (j - a) 0 else d.data.toList.getD j 0 := by
  have hl : d.data.toList.length = d.size := Array.length_toList
  unfold overK
  rw [List.getD_eq_getElem?_getD, List.getElem?_mapIdx, List.getElem?_eq_getElem (by omega), List.getD_eq_getElem?_getD (l := d.data.toList), List.getElem?_eq_getElem (by omega)]
  rfl
theorem overK_same (d s : ByteArray) (a k : Nat) (hk : k ≤ s.size) (h : s.size ≤ k ∨ d.size ≤ a + k) : overK d s a k = overK d s a s.size := by
  apply List.ext_getElem (by rw [overK_length, overK_length])
  intro j h1 h2
  rw [overK_length] at h1
  have e : ∀ (l : List UInt8) (h : j < l.length), l[j] = l.getD j 0 := fun l h => by rw [List.getD_eq_getElem?_getD, List.getElem?_eq_getElem h]; rfl
  rw [e _ (by rw [overK_length]; exact h1), e _ (by rw [overK_length]; exact h1), overK_at d s a k j h1, overK_at d s a s.size j h1]
  by_cases c : a ≤ j ∧ j < a + min k s.size
  · rw [if_pos c, if_pos (by omega)]
  · rw [if_neg c, if_neg (by omega)]
theorem overK_zero (d s : ByteArray) (a j : Nat) (hj : j < d.size) : u8At d.data.toList j = u8At (overK d s a 0) j := by
  unfold u8At
  rw [overK_at d s a 0 j hj, if_neg (by omega)]
theorem overK_next (d s : ByteArray) (a k j : Nat) (hk : k < s.size) (hj : j < d.size) :
    (if j = a + k then Value.int .u8 ((s.data.toList.getD k 0).toNat : Int) else u8At (overK d s a k) j) = u8At (overK d s a (k + 1)) j := by
  unfold u8At
  rw [overK_at d s a k j hj, overK_at d s a (k + 1) j hj]
  by_cases e : j = a + k
  · subst e
    rw [if_pos rfl, if_pos (by omega), Nat.add_sub_cancel_left]
  · rw [if_neg e]
    by_cases c : a ≤ j ∧ j < a + min k s.size
    · rw [if_pos c, if_pos (by omega)]
    · rw [if_neg c, if_neg (by omega)]
theorem byte_at (s : ByteArray) (k : Nat) (hk : k < s.size) : s[k] = s.data.toList.getD k 0 := by
  have hl : s.data.toList.length = s.size := Array.length_toList
  rw [List.getD_eq_getElem?_getD, List.getElem?_eq_getElem (by omega)]
  rfl

end Go.Proofs.YtbhgngimebecdaaGreat

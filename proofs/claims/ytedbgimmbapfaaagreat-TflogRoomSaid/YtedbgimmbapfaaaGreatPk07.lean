/- DiskRefLayWide, DiskRefLayFull, DiskRefLayNil, DiskRefWrite, DiskRefSync -/
import Derived.Test.YtedbgimmbapfaaaGreatPk06
import Derived.Deep.CutBlock
import Derived.Maps.AppendAt
/- DiskRefLayWide -/
namespace Go.Proofs.YtedbgimmbapfaaaGreat
open Go.RowKit
set_option linter.unusedVariables false

end Go.Proofs.YtedbgimmbapfaaaGreat

/- DiskRefLayFull -/
namespace Go.Proofs.YtedbgimmbapfaaaGreat
open Go.RowKit
set_option linter.unusedVariables false

end Go.Proofs.YtedbgimmbapfaaaGreat

/- DiskRefLayNil -/
namespace Go.Proofs.YtedbgimmbapfaaaGreat
open Go.RowKit
set_option linter.unusedVariables false

end Go.Proofs.YtedbgimmbapfaaaGreat

/- DiskRefWrite -/
namespace Go.Proofs.YtedbgimmbapfaaaGreat
open Go.RowKit
set_option linter.unusedVariables false

theorem used_mem {l : List FileS} {f : FileS} (h : f ∈ l) : f.data.size ≤ usedS l := by
  induction l with
  | nil => cases h
  | cons x l ih =>
    have e : usedS (x :: l) = x.data.size + usedS l := by unfold usedS; simp
    rcases List.mem_cons.1 h with rfl | h
    · omega
    · have := ih h; omega
theorem used_setF (l : List FileS) : ∀ (k : Nat) (f : FileS) (h : FileS → FileS), l[k]? = some f → usedS (setF l k h) + f.data.size = usedS l + (h f).data.size := by
  induction l with
  | nil => intro k f h hk; simp at hk
  | cons x l ih =>
    intro k f h hk
    have e : ∀ x l, usedS (x :: l) = x.data.size + usedS l := fun x l => by unfold usedS; simp
    cases k with
    | zero =>
      obtain rfl : x = f := by simpa using hk
      have e2 : setF (x :: l) 0 h = h x :: l := rfl
      rw [e2, e, e]
      omega
    | succ k =>
      have e2 : setF (x :: l) (k + 1) h = x :: setF l k h := rfl
      have := ih k f h (by simpa using hk)
      rw [e2, e, e]
      omega
theorem mem_setF {l : List FileS} {k : Nat} {h : FileS → FileS} {x : FileS} (hx : x ∈ setF l k h) : x ∈ l ∨ ∃ f, l[k]? = some f ∧ x = h f := by
  obtain ⟨j, hj⟩ := List.getElem?_of_mem hx
  rw [setF_get] at hj
  by_cases e : j = k
  · subst e
    rw [if_pos rfl] at hj
    cases hl : l[j]? with
    | none => rw [hl] at hj; cases hj
    | some f => rw [hl] at hj; exact Or.inr ⟨f, rfl, by simpa using hj.symm⟩
  · rw [if_neg e] at hj
    exact Or.inl (List.mem_of_getElem? hj)
theorem RefOk.next {D : DiskS} (h : RefOk D) : RefOk (nextS D) := ⟨h.sizes, h.many, h.used, h.cap, by show D.fails - 1 ≤ _; have := h.fails; omega⟩
theorem RefOk.app {D : DiskS} (h : RefOk D) {k : Nat} {f : FileS} (hk : D.l[k]? = some f) (s : ByteArray) (hs : usedS D.l + s.size ≤ D.cap) : RefOk { D with l := setF D.l k (fun f => { f with data := f.data ++ s }) } := by
  have hu : usedS (setF D.l k (fun f => { f with data := f.data ++ s })) + f.data.size = usedS D.l + (f.data ++ s).size := used_setF D.l k f (fun f => { f with data := f.data ++ s }) hk
  have hz : (f.data ++ s).size = f.data.size + s.size := ByteArray.size_append
  have hc := h.cap
  have hu2 : usedS (setF D.l k (fun f => { f with data := f.data ++ s })) = usedS D.l + s.size := by omega
  refine ⟨fun x hx => ?_, by show (setF _ _ _).length ≤ _; rw [setF_length]; exact h.many, by show usedS (setF _ _ _) ≤ _; omega, h.cap, h.fails⟩
  have hb : x.data.size ≤ usedS (setF D.l k (fun f => { f with data := f.data ++ s })) := used_mem hx
  refine ⟨?_, by omega⟩
  rcases mem_setF hx with hx | ⟨f', hf', rfl⟩
  · exact (h.sizes x hx).1
  · have := (h.sizes f' (List.mem_of_getElem? hf')).1
    show f'.synced ≤ (f'.data ++ s).size
    rw [ByteArray.size_append]
    omega
theorem app_eq (l : List FileS) (k : Nat) (f : FileS) (s : ByteArray) (h : l[k]? = some f) : setF l k (fun x => { x with data := f.data ++ s }) = setF l k (fun f => { f with data := f.data ++ s }) := by
  apply List.ext_getElem?
  intro j
  rw [setF_get, setF_get]
  by_cases e : j = k
  · subst e; rw [if_pos rfl, if_pos rfl, h]; rfl
  · rw [if_neg e, if_neg e]
end Go.Proofs.YtedbgimmbapfaaaGreat

/- DiskRefSync -/
namespace Go.Proofs.YtedbgimmbapfaaaGreat
open Go.RowKit
set_option linter.unusedVariables false

theorem sync_eq (l : List FileS) (k : Nat) (f : FileS) (h : l[k]? = some f) : setF l k (fun x => { x with synced := f.data.size }) = setF l k (fun f => { f with synced := f.data.size }) := by
  apply List.ext_getElem?
  intro j
  rw [setF_get, setF_get]
  by_cases e : j = k
  · subst e; rw [if_pos rfl, if_pos rfl, h]; rfl
  · rw [if_neg e, if_neg e]
def syncE (D : DiskS) (n : ByteArray) : DiskS := { D with l := setF D.l (findS D.l n) (fun f => { f with synced := f.data.size }), fails := D.fails - 1 }
theorem syncS_go {D : DiskS} {n : ByteArray} (hd : D.down = false) (hf : findS D.l n < D.l.length) : syncS D n = if goesS D then (0, syncE D n) else (61, sinkS D D.keep) := by
  unfold syncS doneS
  rw [if_neg (by rw [hd]; decide), if_pos hf]
  rfl
theorem syncS_none {D : DiskS} {n : ByteArray} (hd : D.down = false) (hf : ¬ findS D.l n < D.l.length) : syncS D n = (4, D) := by
  unfold syncS
  rw [if_neg (by rw [hd]; decide), if_neg hf]
theorem syncS_down {D : DiskS} {n : ByteArray} (hd : D.down = true) : syncS D n = (61, D) := by
  unfold syncS
  rw [if_pos hd]

theorem failS_go {D : DiskS} {n : Int} {keep : List Int} (hd : D.down = false) (hn : ¬ n < 0) : failS D n keep = (0, { D with fails := min n.toNat 1099511627776 + 1, keep := keep }) := by
  unfold failS
  rw [if_neg (by rw [hd]; decide), if_neg hn]
theorem failS_arg {D : DiskS} {n : Int} {keep : List Int} (hd : D.down = false) (hn : n < 0) : failS D n keep = (2, D) := by
  unfold failS
  rw [if_neg (by rw [hd]; decide), if_pos hn]
theorem failS_down {D : DiskS} {n : Int} {keep : List Int} (hd : D.down = true) : failS D n keep = (61, D) := by
  unfold failS
  rw [if_pos hd]

/-- append of nothing and a list of numbers: a row of its own. -/
theorem run_copy_ints (w : World) (base : Nat) (hb : base ≤ w.heap.size) (v : Value) (l : List Int) (hv : IntsAt w v l) (hl : l.length ≤ 1099511627776) :
    ∃ v' w', (Builtin.append_ #[47, 47] 47 #[.slice none 0 0, v]).run Tryz.prog w = .ok v' w' ∧ w'.ownsRow base 3 1 v' l.length (ints l) ∧ Touch [] w w' ∧ (∀ x, v'.ownBlock = some x → w.heap.size ≤ x) := by
  have hi : (Tryz.prog.info? 3).map (fun i => (i.zero, i.size, i.bytes)) = some (some (.int .i64 0), 1, 8) := by kernel_rfl
  obtain ⟨i0, hi, hz0, hz1, hz2⟩ := info_parts hi
  rcases hv with ⟨rfl, a, c, rfl⟩ | ⟨b, off, cap, cs, fr, rfl, h2, h3, h4, h5⟩
  · refine ⟨.slice none 0 0, w, ?_, World.ownsRow_nil w base _ 1, Touch.refl _ _, fun x h => by cases h⟩
    cases a with
    | none => simp [Builtin.append_, run_underlying Tryz.underlying47, sizeOf, typeInfo, hi, Builtin.lenOf, Builtin.firstCells]
    | some a => simp [Builtin.append_, run_underlying Tryz.underlying47, sizeOf, typeInfo, hi, Builtin.lenOf, Builtin.firstCells, loadCells, loadCellsFrom]
  · have hcells : ∀ j u, (ints l)[j]? = some u → w.cell? ((⟨b, off, none⟩ : Addr).add j) = some u := by
      intro j u hu
      unfold ints at hu
      rw [List.getElem?_map] at hu
      cases hx : l[j]? with
      | none => rw [hx] at hu; cases hu
      | some x =>
        rw [hx] at hu
        obtain rfl : Value.int .i64 x = u := by simpa using hu
        have e : (⟨b, off, none⟩ : Addr).add j = ⟨b, off + j, none⟩ := by unfold Addr.add; split <;> simp_all
        rw [e, cell_of_row w b (off + j) cs _ fr h4]
        exact h5 j x hx
    obtain ⟨v', w', h1, h2', h3', _, h5'⟩ := run_append_own_at (P := Tryz.prog) w base 47 47 3 i0 (.int .i64 0) 1 8 Tryz.underlying47 hi hz0 hz1 hz2 rfl (by decide) (.slice none 0 0) 0 [] (World.ownsRow_nil w base _ 1) ⟨b, off, none⟩ l.length cap (ints l)
      (by unfold ints; simp) hcells (by unfold ints; intro u hu; obtain ⟨x, _, rfl⟩ := List.mem_map.1 hu; rfl) (by unfold maxLen at *; omega) (by omega) hb
    refine ⟨v', w', h1, by simpa using h2', ⟨h3'.os, h3'.tape, h3'.output, h3'.size, fun k hk _ => h3'.block k hk (by simp [Value.ownBlock])⟩, fun x hx => ?_⟩
    rcases h5' with e | e
    · rw [e] at hx; cases hx
    · rw [e] at hx; injection hx with hx; omega
end Go.Proofs.YtedbgimmbapfaaaGreat

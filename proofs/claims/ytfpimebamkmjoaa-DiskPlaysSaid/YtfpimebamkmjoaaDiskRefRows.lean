/- append of files' rows; take, lay: the document's. -/
import Derived.Test.YtfpimebamkmjoaaDiskRefActs
import Derived.Deep.DeepCutAuto
import Derived.Deep.RegionHeld3
import Derived.Maps.AppendAt
namespace Go.Proofs.Ytfpimebamkmjoaa
open Go.RowKit
set_option linter.unusedVariables false

/-- A slice whose elements are these cells; nil, if there are none, may be. -/
def SrcAt (w : World) (size : Nat) (v : Value) (m : Nat) (news : List Value) : Prop :=
  news.length = m * size ∧ ((∃ c, v = .slice none 0 c ∧ m = 0) ∨ ∃ a c, v = .slice (some a) m c ∧ ∀ j u, news[j]? = some u → w.cell? (a.add j) = some u)

section
variable {P : Program}
theorem run_append_src (w : World) (base : Nat) (t e : TypeId) (i : TypeInfo) (z : Value) (size bytes : Nat) (ty : TypeId) (ht : P.underlying t = some (.slice e)) (hi : P.info? e = some i) (hz : i.zero = some z)
    (hsize : i.size = size) (hby : i.bytes = bytes) (hzs : z.cells.size = size) (hsz : 0 < size)
    (v : Value) (n : Nat) (xs : List Value) (hown : w.ownsRow base e size v n xs) (vx : Value) (m : Nat) (news : List Value) (hs : SrcAt w size vx m news) (h1 : ∀ u ∈ news, u.oneCell' = true)
    (h63 : n + m ≤ maxLen) (hbytes : (n + m) * bytes ≤ 140737488355328) (hbase : base ≤ w.heap.size) :
    ∃ v' w', (Builtin.append_ #[t, t] ty #[v, vx]).run P w = .ok v' w' ∧ w'.ownsRow base e size v' (n + m) (xs ++ news) ∧ w.grownBy w' v.ownBlock ∧ (v'.ownBlock = v.ownBlock ∨ v'.ownBlock = some w.heap.size) := by
  rcases hs.2 with ⟨c, rfl, rfl⟩ | ⟨a, c, rfl, hc⟩
  · have hn : news = [] := List.eq_nil_of_length_eq_zero (by simpa using hs.1)
    subst hn
    refine ⟨v, w, ?_, by simpa using hown, ⟨rfl, rfl, rfl, Nat.le_refl _, fun _ _ _ => rfl⟩, Or.inl rfl⟩
    rcases hown.2 with ⟨rfl, rfl⟩ | ⟨g, cap, cur, rfl, _, _, hnc, _⟩
    · simp [Builtin.append_, run_underlying ht, sizeOf, typeInfo, hi, Builtin.lenOf, Builtin.firstCells]
    · simp [Builtin.append_, run_underlying ht, sizeOf, typeInfo, hi, Builtin.lenOf, Builtin.firstCells, hnc, storeCells]
  · obtain ⟨v', w', e1, e2, e3, _, e5⟩ := run_append_own_at (P := P) w base t ty e i z size bytes ht hi hz hsize hby hzs hsz v n xs hown a m c news hs.1 hc h1 h63 hbytes hbase
    exact ⟨v', w', e1, e2, e3, e5⟩
theorem step_append_run {ops : Array Oper} {o : Oper} {a : Act} {w w' : World} {K : Act → World → Prop} {Q : Exit → Act → World → Prop} {E : Prop} {vs vx v' : Value} (hgd : o.guard = none) (s x : Operand) (t : TypeId)
    (ho : o.op = .call { callee := .builtin .append, args := #[s, x], argTypes := #[t, t] }) (hs : a.eval s = vs) (hx : a.eval x = vx)
    (hr : (Builtin.append_ #[t, t] o.type #[vs, vx]).run P w = .ok v' w') (h : K (a.put o.dst v') w') : if Region.wanted o (yielded ops a.tmps) = true then Oper.wp P o a w K Q else E := by
  have hw : Region.wanted o (yielded ops a.tmps) = true := by simp [Region.wanted, hgd]
  rw [if_pos hw]
  unfold Oper.wp execOp
  simp only [ho, resolve, invoke, builtin, Sem.run_bind, Sem.run_pure, Result.andThen_ok, List.map_toArray, List.map_cons, List.map_nil, hs, hx, hr]
  exact h
end

theorem info_file : (Try.prog.info? 65).map (fun i => (i.zero, i.size, i.bytes)) = some (some (.agg #[.string ByteArray.empty, .string ByteArray.empty, .int .i64 0]), 3, 40) := by kernel_rfl
theorem fcells_one {l : List FileS} : ∀ u ∈ frow l, u.oneCell' = true := by
  intro u hu
  unfold frow at hu
  obtain ⟨f, _, hf⟩ := List.mem_flatMap.1 hu
  simp only [fcells, List.mem_cons, List.not_mem_nil, or_false] at hf
  rcases hf with rfl | rfl | rfl <;> rfl
/-- The step: append of files to a row of files. -/
theorem step_append_files {ops : Array Oper} {o : Oper} {a : Act} {w : World} {K : Act → World → Prop} {Q : Exit → Act → World → Prop} {E : Prop} {vs vx : Value} {base : Nat} {l m : List FileS} (hgd : o.guard = none) (s x : Operand)
    (ho : o.op = .call { callee := .builtin .append, args := #[s, x], argTypes := #[36, 36] }) (hs : a.eval s = vs) (hx : a.eval x = vx)
    (hown : w.ownsRow base 65 3 vs l.length (frow l)) (hsrc : SrcAt w 3 vx m.length (frow m)) (hl : l.length + m.length ≤ 1048576) (hb : base ≤ w.heap.size)
    (h : ∀ v' w', w'.ownsRow base 65 3 v' (l ++ m).length (frow (l ++ m)) → w.grownBy w' vs.ownBlock → (v'.ownBlock = vs.ownBlock ∨ v'.ownBlock = some w.heap.size) → K (a.put o.dst v') w') :
    if Region.wanted o (yielded ops a.tmps) = true then Oper.wp Try.prog o a w K Q else E := by
  obtain ⟨i0, hi, hz0, hz1, hz2⟩ := info_parts info_file
  obtain ⟨v', w', e1, e2, e3, e4⟩ := run_append_src (P := Try.prog) w base 36 65 i0 _ 3 40 o.type Try.underlying36 hi hz0 hz1 hz2 rfl (by decide) vs l.length (frow l) hown vx m.length (frow m) hsrc fcells_one (by unfold maxLen; omega) (by omega) hb
  refine step_append_run hgd s x _ ho hs hx e1 (h v' w' ?_ e3 e4)
  have e : frow (l ++ m) = frow l ++ frow m := by unfold frow; rw [List.flatMap_append]
  rw [e, List.length_append]
  exact e2

/-- The disk is as it was; new blocks may have come. -/
def RefStay (w : World) (base g : Nat) (F : List Nat) (D : DiskS) (w' : World) : Prop := RefAt w' base g F D ∧ Touch [] w w'
theorem RefStay.drew {w w' : World} {base g : Nat} {F : List Nat} {D : DiskS} (h : RefStay w base g F D w') : RefStay w base g F D w'.drew := ⟨h.1.drew, h.2.drew⟩
/-- The files' slice, cut. -/
theorem RefAt.src {w : World} {base g : Nat} {F : List Nat} {D : DiskS} (h : RefAt w base g F D) : ∃ A cap, w.cell? ⟨g, 1, none⟩ = some (.slice A D.l.length cap) ∧ D.l.length ≤ cap ∧ cap ≤ maxLen := by
  obtain ⟨A, cap, vK, _, _, c1, _, _, _, _, _, n1, n2, _⟩ := h.view
  exact ⟨A, cap, c1, n1, n2⟩
theorem RefAt.srcTake {w : World} {base g : Nat} {F : List Nat} {D : DiskS} (h : RefAt w base g F D) {A : Option Addr} {n cap : Nat} (hc : w.cell? ⟨g, 1, none⟩ = some (.slice A n cap)) (k : Nat) (hk : k ≤ D.l.length) :
    SrcAt w 3 (.slice A k cap) (D.l.take k).length (frow (D.l.take k)) := by
  obtain ⟨vL, vK, h1, h2, h3, h4, rfl⟩ := h
  obtain rfl : vL = .slice A n cap := by
    have := (h1.cell 1).symm.trans hc
    simpa using this
  have hlen : (D.l.take k).length = k := by rw [List.length_take]; omega
  refine ⟨frow_length _, ?_⟩
  rw [hlen]
  rcases h3.2 with ⟨e, e2⟩ | ⟨b, cap', cur, e, _, hh, _, _, _, htake⟩
  · injection e with e e3 e4
    exact Or.inl ⟨cap, by rw [e, show k = 0 by omega], by omega⟩
  · simp only [Value.slice.injEq] at e
    obtain ⟨rfl, rfl, rfl⟩ := e
    refine Or.inr ⟨⟨b, 0, none⟩, cap, rfl, fun j u hu => ?_⟩
    have hj : j < k * 3 := by have := (List.getElem?_eq_some_iff.1 hu).1; rw [frow_length, hlen] at this; exact this
    have ea : (⟨b, 0, none⟩ : Addr).add j = ⟨b, j, none⟩ := by unfold Addr.add; split <;> simp_all
    rw [ea, h3.cellAt j (by omega)]
    have es : frow D.l = frow (D.l.take k) ++ frow (D.l.drop k) := by unfold frow; rw [← List.flatMap_append, List.take_append_drop]
    rw [es, List.getElem?_append_left (by rw [frow_length, hlen]; exact hj)]
    exact hu
theorem RefAt.srcDrop {w : World} {base g : Nat} {F : List Nat} {D : DiskS} (h : RefAt w base g F D) {b n cap : Nat} (hc : w.cell? ⟨g, 1, none⟩ = some (.slice (some ⟨b, 0, none⟩) n cap)) (k : Nat) (hk : k ≤ D.l.length) :
    SrcAt w 3 (.slice (some ⟨b, k * 3, none⟩) (n - k) (cap - k)) (D.l.drop k).length (frow (D.l.drop k)) ∧ n = D.l.length := by
  obtain ⟨vL, vK, h1, h2, h3, h4, rfl⟩ := h
  obtain rfl : vL = .slice (some ⟨b, 0, none⟩) n cap := by
    have := (h1.cell 1).symm.trans hc
    simpa using this
  rcases h3.2 with ⟨e, e2⟩ | ⟨b', cap', cur, e, _, hh, _, _, _, htake⟩
  · cases e
  · simp only [Value.slice.injEq, Option.some.injEq, Addr.mk.injEq, and_true] at e
    obtain ⟨rfl, rfl, rfl⟩ := e
    refine ⟨⟨frow_length _, Or.inr ⟨⟨b, k * 3, none⟩, cap - k, by rw [List.length_drop], fun j u hu => ?_⟩⟩, rfl⟩
    have ea : (⟨b, k * 3, none⟩ : Addr).add j = ⟨b, k * 3 + j, none⟩ := by unfold Addr.add; split <;> simp_all
    have hj : j < (D.l.length - k) * 3 := by have := (List.getElem?_eq_some_iff.1 hu).1; rw [frow_length, List.length_drop] at this; exact this
    rw [ea, h3.cellAt (k * 3 + j) (by omega)]
    have es : frow D.l = frow (D.l.take k) ++ frow (D.l.drop k) := by unfold frow; rw [← List.flatMap_append, List.take_append_drop]
    have hlen : (frow (D.l.take k)).length = k * 3 := by rw [frow_length, List.length_take]; congr 1; omega
    rw [es, List.getElem?_append_right (by omega), hlen, Nat.add_sub_cancel_left]
    exact hu
end Go.Proofs.Ytfpimebamkmjoaa

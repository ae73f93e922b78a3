/- DiskRefCrash, DiskRefActs, DiskRefRows, DiskRefTake, DiskRefLay -/
import Derived.Test.YtedbgimmbapfaaaGreatPk05
import Derived.Deep.DeepCutAuto
import Derived.Deep.RegionHeld3
import Derived.Maps.AppendAt
import Derived.Deep.RegionLaw
/- DiskRefCrash -/
namespace Go.Proofs.YtedbgimmbapfaaaGreat
open Go.RowKit
set_option linter.unusedVariables false

theorem crashK_length (l : List FileS) (keep : List Int) (k : Nat) : (crashK l keep k).length = l.length := by unfold crashK; simp
theorem crashK_get (l : List FileS) (keep : List Int) (k j : Nat) : (crashK l keep k)[j]? = (l[j]?).map (fun f => if j < k then crashF f (keep.getD j 0) else f) := by unfold crashK; simp
theorem crashK_at (l : List FileS) (keep : List Int) (k : Nat) : (crashK l keep k)[k]? = l[k]? := by
  rw [crashK_get]
  cases l[k]? <;> simp
theorem crashK_zero (l : List FileS) (keep : List Int) : crashK l keep 0 = l := by
  apply List.ext_getElem?
  intro j
  rw [crashK_get]
  cases l[j]? <;> simp
theorem crashK_full (l : List FileS) (keep : List Int) : crashK l keep l.length = crashL l keep := by
  apply List.ext_getElem?
  intro j
  rw [crashK_get]
  unfold crashL
  rw [List.getElem?_mapIdx]
  rcases Nat.lt_or_ge j l.length with c | c
  · rw [List.getElem?_eq_getElem c]; simp [c]
  · rw [List.getElem?_eq_none c]; rfl
theorem setF_get (l : List FileS) (k j : Nat) (h : FileS → FileS) : (setF l k h)[j]? = if j = k then (l[j]?).map h else l[j]? := by
  unfold setF
  rw [List.getElem?_modify]
  by_cases e : j = k
  · subst e; simp
  · rw [if_neg e]
    have e2 : ¬ k = j := fun x => e x.symm
    cases l[j]? <;> simp [e2]
theorem crashK_next (l : List FileS) (keep : List Int) (k : Nat) (f : FileS) (h : l[k]? = some f) :
    setF (setF (crashK l keep k) k (fun x => { x with data := (crashF f (keep.getD k 0)).data })) k (fun x => { x with synced := (crashF f (keep.getD k 0)).synced }) = crashK l keep (k + 1) := by
  apply List.ext_getElem?
  intro j
  rw [setF_get, setF_get, crashK_get, crashK_get]
  by_cases e : j = k
  · subst e
    rw [if_pos rfl, if_pos rfl, h]
    simp [crashF]
  · rw [if_neg e, if_neg e]
    congr 1
    funext x
    by_cases c : j < k
    · rw [if_pos c, if_pos (by omega)]
    · rw [if_neg c, if_neg (by omega)]

/-- The ints' row has another type than the blocks of the disk that are written in place. -/
theorem ints_far {w : World} {v : Value} {l : List Int} {b i : Nat} (h : IntsAt w v l) (hb : ∀ cs fr, w.heap[b]? ≠ some (.cells cs 3 fr)) (u : Value) : IntsAt (w.setCell ⟨b, i, none⟩ u) v l :=
  h.touch (Touch.setCell (F := [b]) (Touch.refl _ w) (Or.inl (by simp)) u) (fun x cs fr hx => by
    obtain rfl : x = b := by simpa using hx
    exact hb cs fr)
theorem ints_far_n {w : World} {v : Value} {l : List Int} {b i n : Nat} {u : Value} (h : IntsAt w v l) (hb : ∀ cs fr, w.heap[b]? ≠ some (.cells cs 3 fr)) : IntsAt ((w.drewN n).setCell ⟨b, i, none⟩ u) v l :=
  ints_far (w := w.drewN n) h hb u
theorem setCell_none_int {w : World} {b : Nat} {p : Addr} {u : Value} (hb : ∀ cs fr, w.heap[b]? ≠ some (.cells cs 3 fr)) : ∀ cs fr, (w.setCell p u).heap[b]? ≠ some (.cells cs 3 fr) := by
  intro cs fr e
  by_cases hp : b = p.block
  · subst hp
    simp only [World.setCell, Array.getElem?_modify, if_true] at e
    cases hw : w.heap[p.block]? with
    | none => rw [hw] at e; cases e
    | some o =>
      rw [hw] at e
      cases o with
      | cells c t f =>
        simp at e
        exact hb c f (by rw [hw, e.2.1])
      | _ => simp at e
  · rw [heap_setCell_other w p b u hp] at e
    exact hb cs fr e

/-- How many bytes more stay, as it is reckoned. -/
theorem stays_zero {f : FileS} {x : Int} (h : x ≤ 0) : staysS f x = f.synced := by unfold staysS; omega
theorem stays_all {f : FileS} {x : Int} (h : (f.data.size : Int) - f.synced < x) (hs : f.synced ≤ f.data.size) : (staysS f x : Int) = f.data.size := by unfold staysS; omega
theorem stays_some {f : FileS} {x : Int} (h0 : 0 < x) (h : x ≤ (f.data.size : Int) - f.synced) : (staysS f x : Int) = f.synced + x := by unfold staysS; omega
theorem crashF_size {f : FileS} {x : Int} (hs : f.synced ≤ f.data.size) : (crashF f x).data.size = staysS f x := by
  show (f.data.extract 0 (staysS f x)).size = _
  rw [ByteArray.size_extract]
  unfold staysS
  omega
theorem crashF_all {f : FileS} {x : Int} (h : (f.data.size : Int) - f.synced < x) (hs : f.synced ≤ f.data.size) : f.data = (crashF f x).data := by
  show _ = f.data.extract 0 (staysS f x)
  rw [show staysS f x = f.data.size by have := stays_all h hs; omega, ByteArray.extract_zero_size]
theorem crashF_some {f : FileS} {x : Int} (h0 : 0 < x) (h : x ≤ (f.data.size : Int) - f.synced) : f.data.extract 0 ((f.synced : Int) + x).toNat = (crashF f x).data := by
  show _ = f.data.extract 0 (staysS f x)
  congr 1
  have := stays_some h0 h
  omega
theorem crashF_none {f : FileS} {x : Int} (h : x ≤ 0) : f.data.extract 0 f.synced = (crashF f x).data := by
  show _ = f.data.extract 0 (staysS f x)
  rw [stays_zero h]

theorem ints_at {w : World} {A : Option Addr} {n cap : Nat} {l : List Int} (h : IntsAt w (.slice A n cap) l) (k : Nat) (hk : k < l.length) : ∃ b off, A = some ⟨b, off, none⟩ ∧ w.cell? ⟨b, off + k, none⟩ = some (.int .i64 (l.getD k 0)) := by
  obtain ⟨A', off, cap', e1, _, e3⟩ := h.cell
  simp only [Value.slice.injEq] at e1
  obtain ⟨b, e4, e5⟩ := e3 k l[k] (List.getElem?_eq_getElem hk)
  refine ⟨b, off, by rw [e1.1, e4], ?_⟩
  rw [e5, List.getD_eq_getElem?_getD, List.getElem?_eq_getElem hk]
  rfl
end Go.Proofs.YtedbgimmbapfaaaGreat

/- DiskRefActs -/
namespace Go.Proofs.YtedbgimmbapfaaaGreat
open Go.RowKit
set_option linter.unusedVariables false

/-- What the sizes of a disk's files are bounded by. -/
structure RefOk (D : DiskS) : Prop where
  sizes : ∀ f ∈ D.l, f.synced ≤ f.data.size ∧ f.data.size ≤ 1048576
  many : D.l.length ≤ 400
  used : usedS D.l ≤ 1048576
  cap : D.cap ≤ 1048576
  fails : D.fails ≤ 1099511627777

theorem foundV_yes {l : List FileS} {n : ByteArray} (h : findS l n < l.length) : foundV l n = (findS l n : Int) := by unfold foundV; rw [if_pos h]
theorem foundV_no {l : List FileS} {n : ByteArray} (h : ¬ findS l n < l.length) : foundV l n = -1 := by unfold foundV; rw [if_neg h]
theorem none_at {l : List FileS} {n : ByteArray} (h : ¬ findS l n < l.length) : l[findS l n]? = none := List.getElem?_eq_none (by omega)

end Go.Proofs.YtedbgimmbapfaaaGreat

/- DiskRefRows -/
namespace Go.Proofs.YtedbgimmbapfaaaGreat
open Go.RowKit
set_option linter.unusedVariables false

/-- A slice whose elements are these cells; nil, if there are none, may be. -/
def SrcAt (w : World) (size : Nat) (v : Value) (m : Nat) (news : List Value) : Prop :=
  news.length = m * size ∧ ((∃ c, v = .slice none 0 c ∧ m = 0) ∨ ∃ a c, v = .slice (some a) m c ∧ ∀ j u, news[j]? = some u → w.cell? (a.add j) = some u)

section
variable {P : Program}
theorem run_append_src (w : World) (base : Nat) (t e : TypeId) (i : TypeInfo) (z : Value) (size bytes : Nat) (ty : TypeId) (ht : P.underlying t = some (.slice e)) (hi : P.info? e = some i) (hz : i.zero = some z)
    (hsize : i.size = size) (hby : i.bytes = bytes) (hzs : z.cells.size = size) (hsz : 0 < size)
    (v : Value) (n : Nat) (xs : List Value) (hown : w.ownsRow base e size v n xs) (vx : Value) (m : Nat) (news : List Value) (hs : SrcAt w size vx m news) (h1 : ∀ u ∈ news, u.oneCell' = true)
    (h63 : n + m ≤ maxLen) (hbytes : (n + m) * bytes ≤ 140737488355328) (hbase : base ≤ w.heap.size) :
    ∃ v' w', (Builtin.append_ #[t, t] ty #[v, vx]).run P w = .ok v' w' ∧ w'.ownsRow base e size v' (n + m) (xs ++ news) ∧ w.grownBy w' v.ownBlock ∧ (v'.ownBlock = v.ownBlock ∨ v'.ownBlock = some w.heap.size) := by
  rcases hs.2 with ⟨c, rfl, rfl⟩ | ⟨a, c, rfl, hc⟩
  · have hn : news = [] := List.eq_nil_of_length_eq_zero (by simpa using hs.1)
    subst hn
    refine ⟨v, w, ?_, by simpa using hown, ⟨rfl, rfl, rfl, Nat.le_refl _, fun _ _ _ => rfl⟩, Or.inl rfl⟩
    rcases hown.2 with ⟨rfl, rfl⟩ | ⟨g, cap, cur, rfl, _, _, hnc, _⟩
    · simp [Builtin.append_, run_underlying ht, sizeOf, typeInfo, hi, Builtin.lenOf, Builtin.firstCells]
    · simp [Builtin.append_, run_underlying ht, sizeOf, typeInfo, hi, Builtin.lenOf, Builtin.firstCells, hnc, storeCells]
  · obtain ⟨v', w', e1, e2, e3, _, e5⟩ := run_append_own_at (P := P) w base t ty e i z size bytes ht hi hz hsize hby hzs hsz v n xs hown a m c news hs.1 hc h1 h63 hbytes hbase
    exact ⟨v', w', e1, e2, e3, e5⟩
theorem step_append_run {ops : Array Oper} {o : Oper} {a : Act} {w w' : World} {K : Act → World → Prop} {Q : Exit → Act → World → Prop} {E : Prop} {vs vx v' : Value} (hgd : o.guard = none) (s x : Operand) (t : TypeId)
    (ho : o.op = .call { callee := .builtin .append, args := #[s, x], argTypes := #[t, t] }) (hs : a.eval s = vs) (hx : a.eval x = vx)
    (hr : (Builtin.append_ #[t, t] o.type #[vs, vx]).run P w = .ok v' w') (h : K (a.put o.dst v') w') : if Region.wanted o (yielded ops a.tmps) = true then Oper.wp P o a w K Q else E := by
  have hw : Region.wanted o (yielded ops a.tmps) = true := by simp [Region.wanted, hgd]
  rw [if_pos hw]
  unfold Oper.wp execOp
  simp only [ho, resolve, invoke, builtin, Sem.run_bind, Sem.run_pure, Result.andThen_ok, List.map_toArray, List.map_cons, List.map_nil, hs, hx, hr]
  exact h
end

theorem fcells_one {l : List FileS} : ∀ u ∈ frow l, u.oneCell' = true := by
  intro u hu
  unfold frow at hu
  obtain ⟨f, _, hf⟩ := List.mem_flatMap.1 hu
  simp only [fcells, List.mem_cons, List.not_mem_nil, or_false] at hf
  rcases hf with rfl | rfl | rfl <;> rfl
end Go.Proofs.YtedbgimmbapfaaaGreat

/- DiskRefTake -/
namespace Go.Proofs.YtedbgimmbapfaaaGreat
open Go.RowKit
set_option linter.unusedVariables false

section
variable {w W W1 : World} {base g b cap n : Nat} {F : List Nat} {D : DiskS} {A : Option Addr} {k : Nat}
theorem src_none {a : Option Addr} {c : Nat} (W : World) : SrcAt W 3 (.slice a 0 c) ([] : List FileS).length (frow []) :=
  ⟨rfl, by
    cases a with
    | none => exact Or.inl ⟨c, rfl, rfl⟩
    | some a => exact Or.inr ⟨a, c, rfl, fun j u hu => by cases hu⟩⟩
theorem none_far : ∀ x, (Value.slice none 0 0).ownBlock = some x → x ∉ F ∧ w.heap.size ≤ x := fun x h => by cases h
end

end Go.Proofs.YtedbgimmbapfaaaGreat

/- DiskRefLay -/
namespace Go.Proofs.YtedbgimmbapfaaaGreat
open Go.RowKit
set_option linter.unusedVariables false

theorem ahead_lt {l : List FileS} {n : ByteArray} {k : Nat} {f : FileS} (h : l[k]? = some f) (hf : lessB f.name n = false) : aheadS l n ≤ k := by
  unfold aheadS
  have hk : k < l.length := (List.getElem?_eq_some_iff.1 h).1
  rcases Nat.lt_or_ge k (l.findIdx (fun f => !lessB f.name n)) with c | c
  · have := List.not_of_lt_findIdx c
    rw [List.getElem?_eq_getElem hk] at h
    have e : l[k] = f := by simpa using h
    rw [e] at this
    simp [hf] at this
  · exact c
theorem ahead_le (l : List FileS) (n : ByteArray) : aheadS l n ≤ l.length := List.findIdx_le_length
theorem ahead_at {l : List FileS} {n : ByteArray} {k : Nat} (hk : k ≤ l.length) (hall : ∀ j f, j < k → l[j]? = some f → lessB f.name n = true) : k ≤ aheadS l n := by
  unfold aheadS
  rcases Nat.lt_or_ge (l.findIdx (fun f => !lessB f.name n)) k with c | c
  · have hlt : l.findIdx (fun f => !lessB f.name n) < l.length := by omega
    have h := List.findIdx_getElem (w := hlt)
    have h2 := hall _ _ c (List.getElem?_eq_getElem hlt)
    simp only [Bool.not_eq_true'] at h
    rw [h] at h2
    cases h2
  · exact c

section
variable {w W : World} {base g cap n : Nat} {F : List Nat} {D : DiskS} {A : Option Addr}
end

theorem cell_new {W : World} {p : Addr} {v : Value} (h : W.cell? p = some v) (o : Obj) : (W.alloc o).cell? p = some v :=
  (World.cell?_of_block (w := W) (Below.heap_alloc W o p.block (block_lt_of_cell h))).trans h
theorem SrcAt.grown {V V1 : World} {size m : Nat} {v : Value} {news : List Value} {row : Option Nat} (h : SrcAt V size v m news) (hg : V.grownBy V1 row) (hr : row = none) : SrcAt V1 size v m news := by
  subst hr
  refine ⟨h.1, ?_⟩
  rcases h.2 with h | ⟨a, c, e, hc⟩
  · exact Or.inl h
  · exact Or.inr ⟨a, c, e, fun j u hu => hg.cell (hc j u hu) (fun e => by cases e)⟩
/-- The loop that looks for a file's place. -/
def Placed (W1 : World) (k : Nat) (u : Value) (wx : World) : Prop := ∃ n : Nat, u = .int .i64 k ∧ wx = W1.drewN n
theorem placed_n {W1 : World} {k K n m : Nat} (h : K = k) : Placed W1 K (.int .i64 k) ((W1.drewN n).drewN m) := ⟨n + m, by rw [h], by show ((W1.drewN n).drewN m) = W1.drewN (n + m); unfold World.drewN; simp [Nat.add_assoc]⟩
end Go.Proofs.YtedbgimmbapfaaaGreat

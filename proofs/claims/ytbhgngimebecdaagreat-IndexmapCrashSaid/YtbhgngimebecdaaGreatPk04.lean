/- DiskRef, DiskRefSet, DiskRefCrash, DiskRefActs, DiskRefWrite, DiskRefSync, DiskRefNew, IntsIn, DiskApi, SumsInto, NumsPut, Twist, NumsGet, NumsGetRef, SumsIntoRef, NumsPutRef -/
import Derived.Test.YtbhgngimebecdaaGreatPk01
import Derived.Test.YtbhgngimebecdaaGreatPk03
import Derived.Maps.AppendAt
/- DiskRef -/
namespace Go.Proofs.YtbhgngimebecdaaGreat
open Go.RowKit
set_option linter.unusedVariables false

/-- A file's cells. -/
def fcells (f : FileS) : List Value := [.string f.name, .string f.data, .int .i64 f.synced]
def frow (l : List FileS) : List Value := l.flatMap fcells
theorem frow_length (l : List FileS) : (frow l).length = l.length * 3 := by
  induction l with
  | nil => rfl
  | cons f l ih =>
    have e : frow (f :: l) = fcells f ++ frow l := rfl
    rw [e, List.length_append, ih, List.length_cons]
    show 3 + l.length * 3 = _
    omega
theorem frow_at (l : List FileS) : ∀ (k : Nat) (f : FileS), l[k]? = some f → ∀ j, j < 3 → (frow l)[k * 3 + j]? = (fcells f)[j]? := by
  induction l with
  | nil => intro k f h; simp at h
  | cons x l ih =>
    intro k f h j hj
    have e : frow (x :: l) = fcells x ++ frow l := rfl
    have hl : (fcells x).length = 3 := rfl
    rw [e]
    cases k with
    | zero =>
      obtain rfl : x = f := by simpa using h
      rw [Nat.zero_mul, Nat.zero_add, List.getElem?_append_left (by omega)]
    | succ k =>
      rw [List.getElem?_append_right (by omega), hl, show (k + 1) * 3 + j - 3 = k * 3 + j by omega]
      exact ih k f (by simpa using h) j hj
def ints (l : List Int) : List Value := l.map (Value.int .i64)

section
variable {w w' : World} {base g : Nat} {F G : List Nat} {D : DiskS}
end

theorem some_at {l : List FileS} {k : Nat} (h : k < l.length) : ∃ f, l[k]? = some f := ⟨l[k], List.getElem?_eq_getElem h⟩

/-- Find's answer. -/
def foundV (l : List FileS) (n : ByteArray) : Int := if findS l n < l.length then (findS l n : Int) else -1

theorem str_ne {a b : ByteArray} (h : a ≠ b) : (a.toList == b.toList) = false := by
  refine beq_eq_false_iff_ne.2 (fun e => h ?_)
  rw [ByteArray.toList_eq, ByteArray.toList_eq] at e
  exact ByteArray.ext (Array.toList_inj.1 e)
theorem str_eq (a : ByteArray) : (a.toList == a.toList) = true := by simp

theorem find_lt {l : List FileS} {n : ByteArray} {k : Nat} {f : FileS} (h : l[k]? = some f) (hf : f.name = n) : findS l n ≤ k := by
  unfold findS
  have hk : k < l.length := (List.getElem?_eq_some_iff.1 h).1
  rcases Nat.lt_or_ge k (l.findIdx (fun f => decide (f.name = n))) with c | c
  · have := List.not_of_lt_findIdx c
    rw [List.getElem?_eq_getElem hk] at h
    have e : l[k] = f := by simpa using h
    rw [e] at this
    simp [hf] at this
  · exact c
theorem find_at {l : List FileS} {n : ByteArray} (h : findS l n < l.length) : ∃ f, l[findS l n]? = some f ∧ f.name = n := by
  have h' : l.findIdx (fun f => decide (f.name = n)) < l.length := h
  have := List.findIdx_getElem (w := h')
  exact ⟨l[findS l n], List.getElem?_eq_getElem h, of_decide_eq_true this⟩
theorem find_le (l : List FileS) (n : ByteArray) : findS l n ≤ l.length := List.findIdx_le_length
theorem found_yes {l : List FileS} {k : Nat} {f : FileS} (h : l[k]? = some f) (hn : ∀ j g, j < k → l[j]? = some g → g.name ≠ f.name) : foundV l f.name = (k : Int) := by
  have h1 := find_lt h rfl
  have hk : k < l.length := (List.getElem?_eq_some_iff.1 h).1
  obtain ⟨g, hg, e⟩ := find_at (l := l) (n := f.name) (by omega)
  unfold foundV
  rw [if_pos (by omega)]
  rcases Nat.lt_or_ge (findS l f.name) k with c | c
  · exact absurd e (hn _ g c hg)
  · omega
theorem found_no {l : List FileS} {n : ByteArray} (hn : ∀ j g, j < l.length → l[j]? = some g → g.name ≠ n) : foundV l n = -1 := by
  unfold foundV
  rw [if_neg]
  intro hlt
  obtain ⟨g, hg, e⟩ := find_at hlt
  exact hn _ g hlt hg e
theorem none_next {l : List FileS} {n : ByteArray} {k : Nat} {f : FileS} (h : l[k]? = some f) (hn : ∀ j g, j < k → l[j]? = some g → g.name ≠ n) (hf : ¬ f.name = n) : ∀ j g, j < k + 1 → l[j]? = some g → g.name ≠ n := by
  intro j g hj hg
  rcases Nat.lt_or_ge j k with c | c
  · exact hn j g c hg
  · obtain rfl : j = k := by omega
    rw [h] at hg
    obtain rfl : f = g := by simpa using hg
    exact hf

theorem used_take (l : List FileS) (k : Nat) (f : FileS) (h : l[k]? = some f) : usedS (l.take (k + 1)) = usedS (l.take k) + f.data.size := by
  unfold usedS
  rw [List.take_add_one, h, List.map_append, List.sum_append]
  simp
theorem used_le (l : List FileS) (k : Nat) : usedS (l.take k) ≤ usedS l := by
  have h : usedS l = usedS (l.take k) + usedS (l.drop k) := by
    unfold usedS
    rw [← List.sum_append, ← List.map_append, List.take_append_drop]
  omega
end Go.Proofs.YtbhgngimebecdaaGreat

/- DiskRefSet -/
namespace Go.Proofs.YtbhgngimebecdaaGreat
open Go.RowKit
set_option linter.unusedVariables false

theorem frow_set (x : FileS) (l : List FileS) (k j : Nat) (u : Value) : (fcells x ++ frow l).set ((k + 1) * 3 + j) u = fcells x ++ (frow l).set (k * 3 + j) u := by
  have hl : (fcells x).length = 3 := rfl
  rw [List.set_append, if_neg (by omega), hl, show (k + 1) * 3 + j - 3 = k * 3 + j by omega]
theorem frow_set1 (l : List FileS) (k : Nat) (f : FileS) (h : l[k]? = some f) (s : ByteArray) : (frow l).set (k * 3 + 1) (.string s) = frow (setF l k (fun f => { f with data := s })) := by
  induction l generalizing k with
  | nil => simp at h
  | cons x l ih =>
    cases k with
    | zero => rfl
    | succ k =>
      have e1 : frow (x :: l) = fcells x ++ frow l := rfl
      have e2 : frow (setF (x :: l) (k + 1) (fun f => { f with data := s })) = fcells x ++ frow (setF l k (fun f => { f with data := s })) := rfl
      rw [e1, e2, frow_set, ih k (by simpa using h)]
theorem frow_set2 (l : List FileS) (k : Nat) (f : FileS) (h : l[k]? = some f) (s : Nat) : (frow l).set (k * 3 + 2) (.int .i64 s) = frow (setF l k (fun f => { f with synced := s })) := by
  induction l generalizing k with
  | nil => simp at h
  | cons x l ih =>
    cases k with
    | zero => rfl
    | succ k =>
      have e1 : frow (x :: l) = fcells x ++ frow l := rfl
      have e2 : frow (setF (x :: l) (k + 1) (fun f => { f with synced := s })) = fcells x ++ frow (setF l k (fun f => { f with synced := s })) := rfl
      rw [e1, e2, frow_set, ih k (by simpa using h)]
theorem setF_length (l : List FileS) (k : Nat) (h : FileS → FileS) : (setF l k h).length = l.length := by unfold setF; simp

section
variable {w w' : World} {base g : Nat} {F G : List Nat} {D : DiskS}
end

/-- A slice of numbers that lies in a block of numbers. -/
def IntsAt (w : World) (v : Value) (l : List Int) : Prop :=
  (l = [] ∧ ∃ a c, v = .slice a 0 c) ∨ ∃ b off cap cs fr, v = .slice (some ⟨b, off, none⟩) l.length cap ∧ l.length ≤ cap ∧ cap ≤ maxLen ∧ w.heap[b]? = some (.cells cs 3 fr) ∧ ∀ i x, l[i]? = some x → cs[off + i]? = some (.int .i64 x)
theorem IntsAt.of_own {w : World} {base : Nat} {v : Value} {l : List Int} (h : w.ownsRow base 3 1 v l.length (ints l)) : IntsAt w v l := by
  rcases h.2 with ⟨rfl, e⟩ | ⟨b, cap, cs, rfl, _, h2, h3, h4, _, h6⟩
  · exact Or.inl ⟨List.eq_nil_of_length_eq_zero e, none, 0, rfl⟩
  · refine Or.inr ⟨b, 0, cap, cs, (0, 0), rfl, h3, h4, h2, fun i x hx => ?_⟩
    have hi : i < l.length := (List.getElem?_eq_some_iff.1 hx).1
    have e : (ints l)[i]? = some (.int .i64 x) := by unfold ints; rw [List.getElem?_map, hx]; rfl
    rw [← h6, List.getElem?_take, if_pos (by omega)] at e
    simpa using e
theorem IntsAt.touch {F : List Nat} {w w' : World} {v : Value} {l : List Int} (h : IntsAt w v l) (ht : Touch F w w') (hF : ∀ b cs fr, b ∈ F → w.heap[b]? ≠ some (.cells cs 3 fr)) : IntsAt w' v l := by
  rcases h with h | ⟨b, off, cap, cs, fr, h1, h2, h3, h4, h5⟩
  · exact Or.inl h
  · have hlt : b < w.heap.size := by
      rcases Nat.lt_or_ge b w.heap.size with c | c
      · exact c
      · rw [Array.getElem?_eq_none c] at h4; cases h4
    exact Or.inr ⟨b, off, cap, cs, fr, h1, h2, h3, (ht.block b hlt (fun hb => hF b cs fr hb h4)).trans h4, h5⟩
theorem IntsAt.cell {w : World} {v : Value} {l : List Int} (h : IntsAt w v l) : ∃ A off cap, v = .slice A l.length cap ∧ l.length ≤ maxLen ∧ ∀ i x, l[i]? = some x → ∃ b, A = some ⟨b, off, none⟩ ∧ w.cell? ⟨b, off + i, none⟩ = some (.int .i64 x) := by
  rcases h with ⟨rfl, a, c, rfl⟩ | ⟨b, off, cap, cs, fr, h1, h2, h3, h4, h5⟩
  · exact ⟨a, 0, c, rfl, Nat.zero_le _, fun i x h => by simp at h⟩
  · refine ⟨some ⟨b, off, none⟩, off, cap, h1, by omega, fun i x hx => ⟨b, rfl, ?_⟩⟩
    rw [cell_of_row w b (off + i) cs _ fr h4]
    exact h5 i x hx
theorem fails_eq (D : DiskS) : { D with fails := D.fails } = D := rfl
end Go.Proofs.YtbhgngimebecdaaGreat

/- DiskRefCrash -/
namespace Go.Proofs.YtbhgngimebecdaaGreat
open Go.RowKit
set_option linter.unusedVariables false

theorem crashK_length (l : List FileS) (keep : List Int) (k : Nat) : (crashK l keep k).length = l.length := by unfold crashK; simp
theorem crashK_get (l : List FileS) (keep : List Int) (k j : Nat) : (crashK l keep k)[j]? = (l[j]?).map (fun f => if j < k then crashF f (keep.getD j 0) else f) := by unfold crashK; simp
theorem crashK_at (l : List FileS) (keep : List Int) (k : Nat) : (crashK l keep k)[k]? = l[k]? := by
  rw [crashK_get]
  cases l[k]? <;> simp
theorem crashK_zero (l : List FileS) (keep : List Int) : crashK l keep 0 = l := by
  apply List.ext_getElem?
  intro j
  rw [crashK_get]
  cases l[j]? <;> simp
theorem crashK_full (l : List FileS) (keep : List Int) : crashK l keep l.length = crashL l keep := by
  apply List.ext_getElem?
  intro j
  rw [crashK_get]
  unfold crashL
  rw [List.getElem?_mapIdx]
  rcases Nat.lt_or_ge j l.length with c | c
  · rw [List.getElem?_eq_getElem c]; simp [c]
  · rw [List.getElem?_eq_none c]; rfl
theorem setF_get (l : List FileS) (k j : Nat) (h : FileS → FileS) : (setF l k h)[j]? = if j = k then (l[j]?).map h else l[j]? := by
  unfold setF
  rw [List.getElem?_modify]
  by_cases e : j = k
  · subst e; simp
  · rw [if_neg e]
    have e2 : ¬ k = j := fun x => e x.symm
    cases l[j]? <;> simp [e2]
theorem crashK_next (l : List FileS) (keep : List Int) (k : Nat) (f : FileS) (h : l[k]? = some f) :
    setF (setF (crashK l keep k) k (fun x => { x with data := (crashF f (keep.getD k 0)).data })) k (fun x => { x with synced := (crashF f (keep.getD k 0)).synced }) = crashK l keep (k + 1) := by
  apply List.ext_getElem?
  intro j
  rw [setF_get, setF_get, crashK_get, crashK_get]
  by_cases e : j = k
  · subst e
    rw [if_pos rfl, if_pos rfl, h]
    simp [crashF]
  · rw [if_neg e, if_neg e]
    congr 1
    funext x
    by_cases c : j < k
    · rw [if_pos c, if_pos (by omega)]
    · rw [if_neg c, if_neg (by omega)]

/-- The ints' row has another type than the blocks of the disk that are written in place. -/
theorem ints_far {w : World} {v : Value} {l : List Int} {b i : Nat} (h : IntsAt w v l) (hb : ∀ cs fr, w.heap[b]? ≠ some (.cells cs 3 fr)) (u : Value) : IntsAt (w.setCell ⟨b, i, none⟩ u) v l :=
  h.touch (Touch.setCell (F := [b]) (Touch.refl _ w) (Or.inl (by simp)) u) (fun x cs fr hx => by
    obtain rfl : x = b := by simpa using hx
    exact hb cs fr)
theorem ints_far_n {w : World} {v : Value} {l : List Int} {b i n : Nat} {u : Value} (h : IntsAt w v l) (hb : ∀ cs fr, w.heap[b]? ≠ some (.cells cs 3 fr)) : IntsAt ((w.drewN n).setCell ⟨b, i, none⟩ u) v l :=
  ints_far (w := w.drewN n) h hb u
theorem setCell_none_int {w : World} {b : Nat} {p : Addr} {u : Value} (hb : ∀ cs fr, w.heap[b]? ≠ some (.cells cs 3 fr)) : ∀ cs fr, (w.setCell p u).heap[b]? ≠ some (.cells cs 3 fr) := by
  intro cs fr e
  by_cases hp : b = p.block
  · subst hp
    simp only [World.setCell, Array.getElem?_modify, if_true] at e
    cases hw : w.heap[p.block]? with
    | none => rw [hw] at e; cases e
    | some o =>
      rw [hw] at e
      cases o with
      | cells c t f =>
        simp at e
        exact hb c f (by rw [hw, e.2.1])
      | _ => simp at e
  · rw [heap_setCell_other w p b u hp] at e
    exact hb cs fr e

/-- How many bytes more stay, as it is reckoned. -/
theorem stays_zero {f : FileS} {x : Int} (h : x ≤ 0) : staysS f x = f.synced := by unfold staysS; omega
theorem stays_all {f : FileS} {x : Int} (h : (f.data.size : Int) - f.synced < x) (hs : f.synced ≤ f.data.size) : (staysS f x : Int) = f.data.size := by unfold staysS; omega
theorem stays_some {f : FileS} {x : Int} (h0 : 0 < x) (h : x ≤ (f.data.size : Int) - f.synced) : (staysS f x : Int) = f.synced + x := by unfold staysS; omega
theorem crashF_size {f : FileS} {x : Int} (hs : f.synced ≤ f.data.size) : (crashF f x).data.size = staysS f x := by
  show (f.data.extract 0 (staysS f x)).size = _
  rw [ByteArray.size_extract]
  unfold staysS
  omega
theorem crashF_all {f : FileS} {x : Int} (h : (f.data.size : Int) - f.synced < x) (hs : f.synced ≤ f.data.size) : f.data = (crashF f x).data := by
  show _ = f.data.extract 0 (staysS f x)
  rw [show staysS f x = f.data.size by have := stays_all h hs; omega, ByteArray.extract_zero_size]
theorem crashF_some {f : FileS} {x : Int} (h0 : 0 < x) (h : x ≤ (f.data.size : Int) - f.synced) : f.data.extract 0 ((f.synced : Int) + x).toNat = (crashF f x).data := by
  show _ = f.data.extract 0 (staysS f x)
  congr 1
  have := stays_some h0 h
  omega
theorem crashF_none {f : FileS} {x : Int} (h : x ≤ 0) : f.data.extract 0 f.synced = (crashF f x).data := by
  show _ = f.data.extract 0 (staysS f x)
  rw [stays_zero h]

theorem ints_at {w : World} {A : Option Addr} {n cap : Nat} {l : List Int} (h : IntsAt w (.slice A n cap) l) (k : Nat) (hk : k < l.length) : ∃ b off, A = some ⟨b, off, none⟩ ∧ w.cell? ⟨b, off + k, none⟩ = some (.int .i64 (l.getD k 0)) := by
  obtain ⟨A', off, cap', e1, _, e3⟩ := h.cell
  simp only [Value.slice.injEq] at e1
  obtain ⟨b, e4, e5⟩ := e3 k l[k] (List.getElem?_eq_getElem hk)
  refine ⟨b, off, by rw [e1.1, e4], ?_⟩
  rw [e5, List.getD_eq_getElem?_getD, List.getElem?_eq_getElem hk]
  rfl
end Go.Proofs.YtbhgngimebecdaaGreat

/- DiskRefActs -/
namespace Go.Proofs.YtbhgngimebecdaaGreat
open Go.RowKit
set_option linter.unusedVariables false

/-- What the sizes of a disk's files are bounded by. -/
structure RefOk (D : DiskS) : Prop where
  sizes : ∀ f ∈ D.l, f.synced ≤ f.data.size ∧ f.data.size ≤ 1048576
  many : D.l.length ≤ 400
  used : usedS D.l ≤ 1048576
  cap : D.cap ≤ 1048576
  fails : D.fails ≤ 1099511627777

theorem foundV_yes {l : List FileS} {n : ByteArray} (h : findS l n < l.length) : foundV l n = (findS l n : Int) := by unfold foundV; rw [if_pos h]
theorem foundV_no {l : List FileS} {n : ByteArray} (h : ¬ findS l n < l.length) : foundV l n = -1 := by unfold foundV; rw [if_neg h]
theorem none_at {l : List FileS} {n : ByteArray} (h : ¬ findS l n < l.length) : l[findS l n]? = none := List.getElem?_eq_none (by omega)

end Go.Proofs.YtbhgngimebecdaaGreat

/- DiskRefWrite -/
namespace Go.Proofs.YtbhgngimebecdaaGreat
open Go.RowKit
set_option linter.unusedVariables false

theorem used_mem {l : List FileS} {f : FileS} (h : f ∈ l) : f.data.size ≤ usedS l := by
  induction l with
  | nil => cases h
  | cons x l ih =>
    have e : usedS (x :: l) = x.data.size + usedS l := by unfold usedS; simp
    rcases List.mem_cons.1 h with rfl | h
    · omega
    · have := ih h; omega
theorem used_setF (l : List FileS) : ∀ (k : Nat) (f : FileS) (h : FileS → FileS), l[k]? = some f → usedS (setF l k h) + f.data.size = usedS l + (h f).data.size := by
  induction l with
  | nil => intro k f h hk; simp at hk
  | cons x l ih =>
    intro k f h hk
    have e : ∀ x l, usedS (x :: l) = x.data.size + usedS l := fun x l => by unfold usedS; simp
    cases k with
    | zero =>
      obtain rfl : x = f := by simpa using hk
      have e2 : setF (x :: l) 0 h = h x :: l := rfl
      rw [e2, e, e]
      omega
    | succ k =>
      have e2 : setF (x :: l) (k + 1) h = x :: setF l k h := rfl
      have := ih k f h (by simpa using hk)
      rw [e2, e, e]
      omega
theorem mem_setF {l : List FileS} {k : Nat} {h : FileS → FileS} {x : FileS} (hx : x ∈ setF l k h) : x ∈ l ∨ ∃ f, l[k]? = some f ∧ x = h f := by
  obtain ⟨j, hj⟩ := List.getElem?_of_mem hx
  rw [setF_get] at hj
  by_cases e : j = k
  · subst e
    rw [if_pos rfl] at hj
    cases hl : l[j]? with
    | none => rw [hl] at hj; cases hj
    | some f => rw [hl] at hj; exact Or.inr ⟨f, rfl, by simpa using hj.symm⟩
  · rw [if_neg e] at hj
    exact Or.inl (List.mem_of_getElem? hj)
theorem RefOk.next {D : DiskS} (h : RefOk D) : RefOk (nextS D) := ⟨h.sizes, h.many, h.used, h.cap, by show D.fails - 1 ≤ _; have := h.fails; omega⟩
theorem RefOk.app {D : DiskS} (h : RefOk D) {k : Nat} {f : FileS} (hk : D.l[k]? = some f) (s : ByteArray) (hs : usedS D.l + s.size ≤ D.cap) : RefOk { D with l := setF D.l k (fun f => { f with data := f.data ++ s }) } := by
  have hu : usedS (setF D.l k (fun f => { f with data := f.data ++ s })) + f.data.size = usedS D.l + (f.data ++ s).size := used_setF D.l k f (fun f => { f with data := f.data ++ s }) hk
  have hz : (f.data ++ s).size = f.data.size + s.size := ByteArray.size_append
  have hc := h.cap
  have hu2 : usedS (setF D.l k (fun f => { f with data := f.data ++ s })) = usedS D.l + s.size := by omega
  refine ⟨fun x hx => ?_, by show (setF _ _ _).length ≤ _; rw [setF_length]; exact h.many, by show usedS (setF _ _ _) ≤ _; omega, h.cap, h.fails⟩
  have hb : x.data.size ≤ usedS (setF D.l k (fun f => { f with data := f.data ++ s })) := used_mem hx
  refine ⟨?_, by omega⟩
  rcases mem_setF hx with hx | ⟨f', hf', rfl⟩
  · exact (h.sizes x hx).1
  · have := (h.sizes f' (List.mem_of_getElem? hf')).1
    show f'.synced ≤ (f'.data ++ s).size
    rw [ByteArray.size_append]
    omega
theorem app_eq (l : List FileS) (k : Nat) (f : FileS) (s : ByteArray) (h : l[k]? = some f) : setF l k (fun x => { x with data := f.data ++ s }) = setF l k (fun f => { f with data := f.data ++ s }) := by
  apply List.ext_getElem?
  intro j
  rw [setF_get, setF_get]
  by_cases e : j = k
  · subst e; rw [if_pos rfl, if_pos rfl, h]; rfl
  · rw [if_neg e, if_neg e]
end Go.Proofs.YtbhgngimebecdaaGreat

/- DiskRefSync -/
namespace Go.Proofs.YtbhgngimebecdaaGreat
open Go.RowKit
set_option linter.unusedVariables false

theorem sync_eq (l : List FileS) (k : Nat) (f : FileS) (h : l[k]? = some f) : setF l k (fun x => { x with synced := f.data.size }) = setF l k (fun f => { f with synced := f.data.size }) := by
  apply List.ext_getElem?
  intro j
  rw [setF_get, setF_get]
  by_cases e : j = k
  · subst e; rw [if_pos rfl, if_pos rfl, h]; rfl
  · rw [if_neg e, if_neg e]
def syncE (D : DiskS) (n : ByteArray) : DiskS := { D with l := setF D.l (findS D.l n) (fun f => { f with synced := f.data.size }), fails := D.fails - 1 }
theorem syncS_go {D : DiskS} {n : ByteArray} (hd : D.down = false) (hf : findS D.l n < D.l.length) : syncS D n = if goesS D then (0, syncE D n) else (61, sinkS D D.keep) := by
  unfold syncS doneS
  rw [if_neg (by rw [hd]; decide), if_pos hf]
  rfl
theorem syncS_none {D : DiskS} {n : ByteArray} (hd : D.down = false) (hf : ¬ findS D.l n < D.l.length) : syncS D n = (4, D) := by
  unfold syncS
  rw [if_neg (by rw [hd]; decide), if_neg hf]
theorem syncS_down {D : DiskS} {n : ByteArray} (hd : D.down = true) : syncS D n = (61, D) := by
  unfold syncS
  rw [if_pos hd]

theorem failS_go {D : DiskS} {n : Int} {keep : List Int} (hd : D.down = false) (hn : ¬ n < 0) : failS D n keep = (0, { D with fails := min n.toNat 1099511627776 + 1, keep := keep }) := by
  unfold failS
  rw [if_neg (by rw [hd]; decide), if_neg hn]
theorem failS_arg {D : DiskS} {n : Int} {keep : List Int} (hd : D.down = false) (hn : n < 0) : failS D n keep = (2, D) := by
  unfold failS
  rw [if_neg (by rw [hd]; decide), if_pos hn]
theorem failS_down {D : DiskS} {n : Int} {keep : List Int} (hd : D.down = true) : failS D n keep = (61, D) := by
  unfold failS
  rw [if_pos hd]

/-- append of nothing and a list of numbers: a row of its own. -/
theorem run_copy_ints (w : World) (base : Nat) (hb : base ≤ w.heap.size) (v : Value) (l : List Int) (hv : IntsAt w v l) (hl : l.length ≤ 1099511627776) :
    ∃ v' w', (Builtin.append_ #[49, 49] 49 #[.slice none 0 0, v]).run Tryz.prog w = .ok v' w' ∧ w'.ownsRow base 3 1 v' l.length (ints l) ∧ Touch [] w w' ∧ (∀ x, v'.ownBlock = some x → w.heap.size ≤ x) := by
  have hi : (Tryz.prog.info? 3).map (fun i => (i.zero, i.size, i.bytes)) = some (some (.int .i64 0), 1, 8) := by kernel_rfl
  obtain ⟨i0, hi, hz0, hz1, hz2⟩ := info_parts hi
  rcases hv with ⟨rfl, a, c, rfl⟩ | ⟨b, off, cap, cs, fr, rfl, h2, h3, h4, h5⟩
  · refine ⟨.slice none 0 0, w, ?_, World.ownsRow_nil w base _ 1, Touch.refl _ _, fun x h => by cases h⟩
    cases a with
    | none => simp [Builtin.append_, run_underlying Tryz.underlying49, sizeOf, typeInfo, hi, Builtin.lenOf, Builtin.firstCells]
    | some a => simp [Builtin.append_, run_underlying Tryz.underlying49, sizeOf, typeInfo, hi, Builtin.lenOf, Builtin.firstCells, loadCells, loadCellsFrom]
  · have hcells : ∀ j u, (ints l)[j]? = some u → w.cell? ((⟨b, off, none⟩ : Addr).add j) = some u := by
      intro j u hu
      unfold ints at hu
      rw [List.getElem?_map] at hu
      cases hx : l[j]? with
      | none => rw [hx] at hu; cases hu
      | some x =>
        rw [hx] at hu
        obtain rfl : Value.int .i64 x = u := by simpa using hu
        have e : (⟨b, off, none⟩ : Addr).add j = ⟨b, off + j, none⟩ := by unfold Addr.add; split <;> simp_all
        rw [e, cell_of_row w b (off + j) cs _ fr h4]
        exact h5 j x hx
    obtain ⟨v', w', h1, h2', h3', _, h5'⟩ := run_append_own_at (P := Tryz.prog) w base 49 49 3 i0 (.int .i64 0) 1 8 Tryz.underlying49 hi hz0 hz1 hz2 rfl (by decide) (.slice none 0 0) 0 [] (World.ownsRow_nil w base _ 1) ⟨b, off, none⟩ l.length cap (ints l)
      (by unfold ints; simp) hcells (by unfold ints; intro u hu; obtain ⟨x, _, rfl⟩ := List.mem_map.1 hu; rfl) (by unfold maxLen at *; omega) (by omega) hb
    refine ⟨v', w', h1, by simpa using h2', ⟨h3'.os, h3'.tape, h3'.output, h3'.size, fun k hk _ => h3'.block k hk (by simp [Value.ownBlock])⟩, fun x hx => ?_⟩
    rcases h5' with e | e
    · rw [e] at hx; cases hx
    · rw [e] at hx; injection hx with hx; omega
end Go.Proofs.YtbhgngimebecdaaGreat

/- DiskRefNew -/
namespace Go.Proofs.YtbhgngimebecdaaGreat
open Go.RowKit
set_option linter.unusedVariables false

def newS (c : Nat) : DiskS := ⟨c, [], 0, false, 0, 0, []⟩
def NewBad (w : World) (e : Ending) (w' : World) : Prop := e = .returned (.tuple #[.pointer none, .int .i64 2]) ∧ w = w'
end Go.Proofs.YtbhgngimebecdaaGreat

/- IntsIn -/
namespace Go.Proofs.YtbhgngimebecdaaGreat
open Go.RowKit
set_option linter.unusedVariables false

theorem IntsAt.in_ {w : World} {v : Value} {l : List Int} (h : IntsAt w v l) : IntsIn w v l := by
  rcases h with h | ⟨b, off, cap, cs, fr, h1, h2, h3, h4, h5⟩
  · exact Or.inl h
  · refine Or.inr ⟨b, off, cap, h1, h2, h3, ?_, fun i x hx => ?_⟩
    · rcases Nat.lt_or_ge b w.heap.size with c | c
      · exact c
      · rw [Array.getElem?_eq_none c] at h4; cases h4
    · rw [cell_of_row w b (off + i) cs _ fr h4]
      exact h5 i x hx
theorem IntsIn.touch {F : List Nat} {w w' : World} {v : Value} {l : List Int} (h : IntsIn w v l) (ht : Touch F w w') (hF : ∀ b, v.ownBlock = some b → b ∉ F) : IntsIn w' v l := by
  rcases h with h | ⟨b, off, cap, rfl, h2, h3, h4, h5⟩
  · exact Or.inl h
  · exact Or.inr ⟨b, off, cap, rfl, h2, h3, Nat.lt_of_lt_of_le h4 ht.size, fun i x hx => (ht.cell (p := ⟨b, off + i, none⟩) h4 (hF b rfl)).trans (h5 i x hx)⟩
end Go.Proofs.YtbhgngimebecdaaGreat

/- DiskApi -/
namespace Go.Proofs.YtbhgngimebecdaaGreat
open Go.RowKit
set_option linter.unusedVariables false

/-- What the sizes of a disk's files are bounded by, whatever failure is set. -/
structure ProgOk (D : DiskS) : Prop where
  sizes : ∀ f ∈ D.l, f.synced ≤ f.data.size ∧ f.data.size ≤ 1048576
  many : D.l.length ≤ 400
  used : usedS D.l ≤ 1048576
  cap : D.cap ≤ 1048576
theorem RefOk.prog {D : DiskS} (h : RefOk D) : ProgOk D := ⟨h.sizes, h.many, h.used, h.cap⟩
/-- A failure is set: the number as it is. -/
def failP (D : DiskS) (n : Int) (keep : List Int) : Nat × DiskS := if D.down then (61, D) else if n < 0 then (2, D) else (0, { D with fails := n.toNat + 1, keep := keep })
theorem failP_eq {D : DiskS} {n : Int} {keep : List Int} (h : n ≤ 1099511627776) : failP D n keep = failS D n keep := by
  unfold failP failS
  rw [Nat.min_eq_left (by omega)]

/-- How a disk lies in memory: the world, from which block on it is the call's own, its block, all its blocks, what it is. -/
abbrev Lies := World → Nat → Nat → List Nat → DiskS → Prop
abbrev ptr (g : Nat) : Value := .pointer (some ⟨g, 0, none⟩)

/-- A call's end: the answer, and what the disk is then. -/
def EndAt (At : Lies) (base g : Nat) (F : List Nat) (w : World) (v : Value) (E : DiskS) (e : Ending) (w' : World) : Prop :=
  ∃ F', e = .returned v ∧ At w' base g F' E ∧ (∀ x ∈ F', x ∈ F ∨ w.heap.size ≤ x) ∧ Touch F w w'
/-- A call's end that tells a list of numbers: new memory, or none. -/
def IntsEnd (At : Lies) (base g : Nat) (F : List Nat) (w : World) (l : List Int) (E : DiskS) (e : Ending) (w' : World) : Prop :=
  ∃ F' v, e = .returned v ∧ IntsIn w' v l ∧ (∀ b, v.ownBlock = some b → w.heap.size ≤ b ∧ b ∉ F') ∧ At w' base g F' E ∧ (∀ x ∈ F', x ∈ F ∨ w.heap.size ≤ x) ∧ Touch F w w'
/-- A slice of texts. -/
def StrsAt (w : World) (v : Value) (l : List ByteArray) : Prop :=
  (l = [] ∧ ∃ a c, v = .slice a 0 c) ∨ ∃ b off cap, v = .slice (some ⟨b, off, none⟩) l.length cap ∧ l.length ≤ cap ∧ cap ≤ maxLen ∧ b < w.heap.size ∧ ∀ i x, l[i]? = some x → w.cell? ⟨b, off + i, none⟩ = some (.string x)
theorem StrsAt.cell {w : World} {v : Value} {l : List ByteArray} (h : StrsAt w v l) : ∃ A off cap, v = .slice A l.length cap ∧ l.length ≤ maxLen ∧ ∀ i x, l[i]? = some x → ∃ b, A = some ⟨b, off, none⟩ ∧ w.cell? ⟨b, off + i, none⟩ = some (.string x) := by
  rcases h with ⟨rfl, a, c, rfl⟩ | ⟨b, off, cap, h1, h2, h3, h4, h5⟩
  · exact ⟨a, 0, c, rfl, Nat.zero_le _, fun i x h => by simp at h⟩
  · exact ⟨some ⟨b, off, none⟩, off, cap, h1, by omega, fun i x hx => ⟨b, rfl, h5 i x hx⟩⟩
def StrsEnd (At : Lies) (base g : Nat) (F : List Nat) (w : World) (l : List ByteArray) (E : DiskS) (e : Ending) (w' : World) : Prop :=
  ∃ F' v, e = .returned v ∧ StrsAt w' v l ∧ (∀ b, v.ownBlock = some b → w.heap.size ≤ b ∧ b ∉ F') ∧ At w' base g F' E ∧ (∀ x ∈ F', x ∈ F ∨ w.heap.size ≤ x) ∧ Touch F w w'
/-- A made disk. -/
def MadeAt (At : Lies) (base : Nat) (w : World) (c : Nat) (e : Ending) (w' : World) : Prop :=
  ∃ g F, e = .returned (.tuple #[ptr g, .int .i64 0]) ∧ At w' base g F (newS c) ∧ (∀ x ∈ F, w.heap.size ≤ x) ∧ Touch [] w w'
def looseL (l : List FileS) : List Int := l.map (fun f => (f.data.size : Int) - f.synced)
abbrev err (n : Nat) : Value := .int .i64 (n : Nat)

structure DiskApi (At : Lies) : Prop where
  touch : ∀ {w w' : World} {base g : Nat} {F G : List Nat} {D : DiskS}, At w base g F D → Touch G w w' → (∀ x ∈ F, x ∉ G) → At w' base g F D
  low : ∀ {w : World} {base g : Nat} {F : List Nat} {D : DiskS}, At w base g F D → ∀ x ∈ F, base ≤ x ∧ x < w.heap.size
  new_ : ∀ (base c : Nat) (w : World), base ≤ w.heap.size → c ≤ 1048576 → Calls Tryz.prog 15 #[.int .i64 (c : Nat)] w (MadeAt At base w c)
  create : ∀ {w : World} {base g : Nat} {F : List Nat} {D : DiskS} (n : ByteArray), At w base g F D → ProgOk D → n.size ≤ maxLen →
    Calls Tryz.prog 17 #[ptr g, .string n] w (EndAt At base g F w (err (createS D n).1) (createS D n).2)
  append : ∀ {w : World} {base g : Nat} {F : List Nat} {D : DiskS} (n s : ByteArray), At w base g F D → ProgOk D → s.size ≤ 1099511627776 → n.size ≤ maxLen →
    Calls Tryz.prog 18 #[ptr g, .string n, .string s] w (EndAt At base g F w (err (appendS D n s).1) (appendS D n s).2)
  read : ∀ {w : World} {base g : Nat} {F : List Nat} {D : DiskS} (n : ByteArray) (a k : Int), At w base g F D → ProgOk D → D.count ≤ 1099511627776 → (Lit.int .i64 a).wf = true → (Lit.int .i64 k).wf = true → n.size ≤ maxLen →
    Calls Tryz.prog 42 #[ptr g, .string n, .int .i64 a, .int .i64 k] w (EndAt At base g F w (.tuple #[.string (readS D n a k).1, err (readS D n a k).2.1]) (readS D n a k).2.2)
  sync : ∀ {w : World} {base g : Nat} {F : List Nat} {D : DiskS} (n : ByteArray), At w base g F D → ProgOk D → n.size ≤ maxLen →
    Calls Tryz.prog 78 #[ptr g, .string n] w (EndAt At base g F w (err (syncS D n).1) (syncS D n).2)
  rename : ∀ {w : World} {base g : Nat} {F : List Nat} {D : DiskS} (n m : ByteArray), At w base g F D → ProgOk D → m.size ≤ maxLen → n.size ≤ maxLen →
    Calls Tryz.prog 79 #[ptr g, .string n, .string m] w (EndAt At base g F w (err (renameS D n m).1) (renameS D n m).2)
  delete : ∀ {w : World} {base g : Nat} {F : List Nat} {D : DiskS} (n : ByteArray), At w base g F D → ProgOk D → n.size ≤ maxLen →
    Calls Tryz.prog 40 #[ptr g, .string n] w (EndAt At base g F w (err (deleteS D n).1) (deleteS D n).2)
  size : ∀ {w : World} {base g : Nat} {F : List Nat} {D : DiskS} (n : ByteArray), At w base g F D → ProgOk D → n.size ≤ maxLen →
    Calls Tryz.prog 41 #[ptr g, .string n] w (EndAt At base g F w (.tuple #[.int .i64 ((sizeS D n).1 : Nat), err (sizeS D n).2]) D)
  names : ∀ {w : World} {base g : Nat} {F : List Nat} {D : DiskS}, At w base g F D → ProgOk D →
    Calls Tryz.prog 10 #[ptr g] w (StrsEnd At base g F w (D.l.map FileS.name) D)
  free : ∀ {w : World} {base g : Nat} {F : List Nat} {D : DiskS}, At w base g F D → ProgOk D →
    Calls Tryz.prog 48 #[ptr g] w (EndAt At base g F w (.int .i64 ((D.cap : Int) - (usedS D.l : Nat))) D)
  up : ∀ {w : World} {base g : Nat} {F : List Nat} {D : DiskS}, At w base g F D → ProgOk D →
    Calls Tryz.prog 24 #[ptr g] w (EndAt At base g F w (.bool (!D.down)) D)
  crash : ∀ {w : World} {base g : Nat} {F : List Nat} {D : DiskS} (v : Value) (keep : List Int), At w base g F D → ProgOk D → IntsIn w v keep → (∀ b, v.ownBlock = some b → b ∉ F) → keep.length ≤ 1048576 →
    Calls Tryz.prog 25 #[ptr g, v] w (EndAt At base g F w (err (crashS D keep).1) (crashS D keep).2)
  start : ∀ {w : World} {base g : Nat} {F : List Nat} {D : DiskS}, At w base g F D → ProgOk D → D.starts ≤ 1099511627776 →
    Calls Tryz.prog 26 #[ptr g] w (EndAt At base g F w (err (startS D).1) (startS D).2)
  fail : ∀ {w : World} {base g : Nat} {F : List Nat} {D : DiskS} (n : Int) (v : Value) (keep : List Int), At w base g F D → ProgOk D → (Lit.int .i64 n).wf = true → IntsIn w v keep → (∀ b, v.ownBlock = some b → b ∉ F) → keep.length ≤ 1048576 →
    Calls Tryz.prog 23 #[ptr g, .int .i64 n, v] w (EndAt At base g F w (err (failP D n keep).1) (failP D n keep).2)
  upq : ∀ {w : World} {base g : Nat} {F : List Nat} {D : DiskS}, At w base g F D → Calls Tryz.prog 24 #[ptr g] w fun e w' => e = .returned (.bool (!D.down)) ∧ w = w'
  sizeq : ∀ {w : World} {base g : Nat} {F : List Nat} {D : DiskS} (n : ByteArray), At w base g F D → ProgOk D → n.size ≤ maxLen → Calls Tryz.prog 41 #[ptr g, .string n] w fun e w' => e = .returned (.tuple #[.int .i64 ((sizeS D n).1 : Nat), err (sizeS D n).2]) ∧ w = w'
  rise : ∀ {w : World} {base g : Nat} {F : List Nat} {D : DiskS}, At w base g F D → D.l.Pairwise (fun f g => lessB f.name g.name = true) ∧ ∀ f ∈ D.l, nameB f.name = true

/-- One disk is alive, and nothing that was there at the call has changed. -/
def Live (At : Lies) (w0 : World) (g : Nat) (D : DiskS) (w : World) : Prop := ∃ F, At w w0.heap.size g F D ∧ Touch [] w0 w
def LiveEnd (At : Lies) (w0 : World) (g : Nat) (v : Value) (E : DiskS) (e : Ending) (w' : World) : Prop := e = .returned v ∧ Live At w0 g E w'
theorem Live.below {At : Lies} {w0 w : World} {g : Nat} {D : DiskS} (h : Live At w0 g D w) : Below w0.heap.size w0 w := by
  obtain ⟨F, _, ht⟩ := h
  exact ht.below (Nat.le_refl _) (fun x hx => by cases hx)
theorem ints_one (w : World) (x : Int) : IntsAt (w.alloc (.cells #[.int .i64 x] 3)) (.slice (some ⟨w.heap.size, 0, none⟩) 1 1) [x] :=
  Or.inr ⟨w.heap.size, 0, 1, _, (0, 0), rfl, Nat.le_refl _, by decide, heap_alloc_new w _, fun i y hy => by
    cases i with
    | zero => simpa using hy
    | succ i => simp at hy⟩
theorem ints_none (w : World) : IntsAt w (.slice none 0 0) [] := Or.inl ⟨rfl, none, 0, rfl⟩
section
variable {At : Lies} (api : DiskApi At)
include api
theorem EndAt.live {w0 w w' : World} {g : Nat} {F : List Nat} {D E : DiskS} {v : Value} {e : Ending} (h : At w w0.heap.size g F D) (ht : Touch [] w0 w) (he : EndAt At w0.heap.size g F w v E e w') : LiveEnd At w0 g v E e w' := by
  obtain ⟨F', h1, h2, h3, h4⟩ := he
  exact ⟨h1, F', h2, ht.trans h4 (fun x hx => Or.inr (api.low h x hx).1)⟩
theorem Live.alloc {w0 w : World} {g : Nat} {D : DiskS} (h : Live At w0 g D w) (o : Obj) : Live At w0 g D (w.alloc o) := by
  obtain ⟨F, h1, ht⟩ := h
  exact ⟨F, api.touch h1 ((Touch.refl [] w).alloc o) (fun _ _ => by simp), ht.alloc o⟩
theorem Live.drewN {w0 w : World} {g : Nat} {D : DiskS} (h : Live At w0 g D w) (n : Nat) : Live At w0 g D (w.drewN n) := by
  obtain ⟨F, h1, ht⟩ := h
  exact ⟨F, api.touch h1 ((Touch.refl [] w).drewN n) (fun _ _ => by simp), ht.drewN n⟩

/-- The calls, of one disk that is alive. -/
theorem new_l (w0 : World) (c : Nat) (hc : c ≤ 1048576) : Calls Tryz.prog 15 #[.int .i64 (c : Nat)] w0 (fun e w' => ∃ g, e = .returned (.tuple #[ptr g, .int .i64 0]) ∧ Live At w0 g (newS c) w') := by
  refine (api.new_ w0.heap.size c w0 (Nat.le_refl _) hc).mono ?_
  rintro e w' ⟨g, F, h1, h2, _, h4⟩
  exact ⟨g, h1, F, h2, h4⟩
section
variable {w0 w : World} {g : Nat} {D : DiskS}
theorem create_l (n : ByteArray) (h : Live At w0 g D w) (ho : RefOk D) (hn : n.size ≤ maxLen) {r : Nat} (hr : (createS D n).1 = r) {E : DiskS} (hE : (createS D n).2 = E) :
    Calls Tryz.prog 17 #[ptr g, .string n] w (LiveEnd At w0 g (.int .i64 (r : Nat)) E) := by
  obtain ⟨F, h1, ht⟩ := h
  subst hr hE
  exact (api.create n h1 ho.prog hn).mono fun e w' he => EndAt.live api h1 ht he
theorem append_l (n s : ByteArray) (h : Live At w0 g D w) (ho : RefOk D) (hs : s.size ≤ 1099511627776) {r : Nat} (hr : (appendS D n s).1 = r) {E : DiskS} (hE : (appendS D n s).2 = E) (hnm : n.size ≤ maxLen := by decide) :
    Calls Tryz.prog 18 #[ptr g, .string n, .string s] w (LiveEnd At w0 g (.int .i64 (r : Nat)) E) := by
  obtain ⟨F, h1, ht⟩ := h
  subst hr hE
  exact (api.append n s h1 ho.prog hs hnm).mono fun e w' he => EndAt.live api h1 ht he
theorem read_l (n : ByteArray) (a k : Int) (h : Live At w0 g D w) (ho : RefOk D) (hc : D.count ≤ 1099511627776) (ha : (Lit.int .i64 a).wf = true) (hk : (Lit.int .i64 k).wf = true) {t : ByteArray} (h1 : (readS D n a k).1 = t) {r : Nat} (hr : (readS D n a k).2.1 = r) {E : DiskS} (hE : (readS D n a k).2.2 = E) (hnm : n.size ≤ maxLen := by decide) :
    Calls Tryz.prog 42 #[ptr g, .string n, .int .i64 a, .int .i64 k] w (LiveEnd At w0 g (.tuple #[.string t, .int .i64 (r : Nat)]) E) := by
  obtain ⟨F, h2, ht⟩ := h
  subst h1 hr hE
  exact (api.read n a k h2 ho.prog hc ha hk hnm).mono fun e w' he => EndAt.live api h2 ht he
theorem sync_l (n : ByteArray) (h : Live At w0 g D w) (ho : RefOk D) {r : Nat} (hr : (syncS D n).1 = r) {E : DiskS} (hE : (syncS D n).2 = E) (hnm : n.size ≤ maxLen := by decide) :
    Calls Tryz.prog 78 #[ptr g, .string n] w (LiveEnd At w0 g (.int .i64 (r : Nat)) E) := by
  obtain ⟨F, h1, ht⟩ := h
  subst hr hE
  exact (api.sync n h1 ho.prog hnm).mono fun e w' he => EndAt.live api h1 ht he
theorem size_l (n : ByteArray) (h : Live At w0 g D w) (ho : RefOk D) {m r : Nat} (hm : (sizeS D n).1 = m) (hr : (sizeS D n).2 = r) (hnm : n.size ≤ maxLen := by decide) :
    Calls Tryz.prog 41 #[ptr g, .string n] w (LiveEnd At w0 g (.tuple #[.int .i64 (m : Nat), .int .i64 (r : Nat)]) D) := by
  obtain ⟨F, h1, ht⟩ := h
  subst hm hr
  exact (api.size n h1 ho.prog hnm).mono fun e w' he => EndAt.live api h1 ht he
theorem free_l (h : Live At w0 g D w) (ho : RefOk D) {m : Int} (hm : (D.cap : Int) - (usedS D.l : Nat) = m) : Calls Tryz.prog 48 #[ptr g] w (LiveEnd At w0 g (.int .i64 m) D) := by
  obtain ⟨F, h1, ht⟩ := h
  subst hm
  exact (api.free h1 ho.prog).mono fun e w' he => EndAt.live api h1 ht he
theorem up_l (h : Live At w0 g D w) (ho : RefOk D) {b : Bool} (hb : (!D.down) = b) : Calls Tryz.prog 24 #[ptr g] w (LiveEnd At w0 g (.bool b) D) := by
  obtain ⟨F, h1, ht⟩ := h
  subst hb
  exact (api.up h1 ho.prog).mono fun e w' he => EndAt.live api h1 ht he
theorem start_l (h : Live At w0 g D w) (ho : RefOk D) (hs : D.starts ≤ 1099511627776) {r : Nat} (hr : (startS D).1 = r) {E : DiskS} (hE : (startS D).2 = E) : Calls Tryz.prog 26 #[ptr g] w (LiveEnd At w0 g (.int .i64 (r : Nat)) E) := by
  obtain ⟨F, h1, ht⟩ := h
  subst hr hE
  exact (api.start h1 ho.prog hs).mono fun e w' he => EndAt.live api h1 ht he
theorem crash_one (x : Int) (h : Live At w0 g D w) (ho : RefOk D) {r : Nat} (hr : (crashS D [x]).1 = r) {E : DiskS} (hE : (crashS D [x]).2 = E) :
    Calls Tryz.prog 25 #[ptr g, .slice (some ⟨w.heap.size, 0, none⟩) 1 1] (w.alloc (.cells #[.int .i64 x] 3)) (LiveEnd At w0 g (.int .i64 (r : Nat)) E) := by
  obtain ⟨F, h1, ht⟩ := h
  subst hr hE
  have h2 := api.touch h1 ((Touch.refl [] w).alloc (.cells #[.int .i64 x] 3)) (fun _ _ => by simp)
  exact (api.crash _ [x] h2 ho.prog (ints_one w x).in_ (fun b hb hm => by
    obtain rfl : w.heap.size = b := by simpa [Value.ownBlock] using hb
    have := (api.low h1 _ hm).2
    omega) (Nat.le_of_lt (by decide : 1 < 1048576))).mono fun e w' he => EndAt.live api h2 (ht.alloc _) he
theorem crash_none (h : Live At w0 g D w) (ho : RefOk D) {r : Nat} (hr : (crashS D []).1 = r) {E : DiskS} (hE : (crashS D []).2 = E) :
    Calls Tryz.prog 25 #[ptr g, .slice none 0 0] w (LiveEnd At w0 g (.int .i64 (r : Nat)) E) := by
  obtain ⟨F, h1, ht⟩ := h
  subst hr hE
  exact (api.crash _ [] h1 ho.prog (ints_none w).in_ (fun b hb => by cases hb) (by decide)).mono fun e w' he => EndAt.live api h1 ht he
theorem fail_one (n x : Int) (h : Live At w0 g D w) (ho : RefOk D) (hn : (Lit.int .i64 n).wf = true) (hb : n ≤ 1099511627776) {r : Nat} (hr : (failS D n [x]).1 = r) {E : DiskS} (hE : (failS D n [x]).2 = E) :
    Calls Tryz.prog 23 #[ptr g, .int .i64 n, .slice (some ⟨w.heap.size, 0, none⟩) 1 1] (w.alloc (.cells #[.int .i64 x] 3)) (LiveEnd At w0 g (.int .i64 (r : Nat)) E) := by
  obtain ⟨F, h1, ht⟩ := h
  rw [← failP_eq hb] at hr hE
  subst hr hE
  have h2 := api.touch h1 ((Touch.refl [] w).alloc (.cells #[.int .i64 x] 3)) (fun _ _ => by simp)
  exact (api.fail n _ [x] h2 ho.prog hn (ints_one w x).in_ (fun b hb hm => by
    obtain rfl : w.heap.size = b := by simpa [Value.ownBlock] using hb
    have := (api.low h1 _ hm).2
    omega) (Nat.le_of_lt (by decide : 1 < 1048576))).mono fun e w' he => EndAt.live api h2 (ht.alloc _) he
theorem fail_none (n : Int) (h : Live At w0 g D w) (ho : RefOk D) (hn : (Lit.int .i64 n).wf = true) (hb : n ≤ 1099511627776) {r : Nat} (hr : (failS D n []).1 = r) {E : DiskS} (hE : (failS D n []).2 = E) :
    Calls Tryz.prog 23 #[ptr g, .int .i64 n, .slice none 0 0] w (LiveEnd At w0 g (.int .i64 (r : Nat)) E) := by
  obtain ⟨F, h1, ht⟩ := h
  rw [← failP_eq hb] at hr hE
  subst hr hE
  exact (api.fail n _ [] h1 ho.prog hn (ints_none w).in_ (fun b hb => by cases hb) (by decide)).mono fun e w' he => EndAt.live api h1 ht he
end
end

/-- A bound that can be reckoned. -/
def okB (D : DiskS) : Bool := D.l.all (fun f => decide (f.synced ≤ f.data.size) && decide (f.data.size ≤ 1048576)) && decide (D.l.length ≤ 400) && decide (usedS D.l ≤ 1048576) && decide (D.cap ≤ 1048576) && decide (D.fails ≤ 1099511627777)
theorem ok_of {D : DiskS} (h : okB D = true) : RefOk D := by
  unfold okB at h
  simp only [Bool.and_eq_true, decide_eq_true_eq, List.all_eq_true] at h
  exact ⟨h.1.1.1.1, h.1.1.1.2, h.1.1.2, h.1.2, h.2⟩
end Go.Proofs.YtbhgngimebecdaaGreat

/- SumsInto -/
namespace Go.Proofs.YtbhgngimebecdaaGreat
open Go.RowKit
set_option linter.unusedVariables false

theorem val_u32 {a b : Int} (h : a = b) : Value.int .u32 a = .int .u32 b := by rw [h]
theorem ret_u32 {a b : Int} (h : a = b) : Ending.returned (.int .u32 a) = .returned (.int .u32 b) := by rw [h]

theorem stp_walk (y : Nat) (hy : y < 4294967296) : bits .xor .u32 ((y : Int) / 2) (bits .and .u32 (y : Int) 1 * 3988292384 % 4294967296) = ((stp y : Nat) : Int) := by
  have h1 : bits .and .u32 (y : Int) 1 = ((y % 2 : Nat) : Int) := by
    have h := u32_and_nat y 1 hy (by decide)
    rw [nat_mask1] at h
    exact h
  have h2 : ((y % 2 : Nat) : Int) * 3988292384 % 4294967296 = ((y % 2 * 3988292384 : Nat) : Int) := by omega
  have h3 : (y : Int) / 2 = ((y / 2 : Nat) : Int) := by omega
  rw [h1, h2, h3]
  exact u32_xor_nat _ _ (by omega) (by omega)

set_option maxHeartbeats 400000 in
theorem into_any (x c : Nat) (w : World) (hx : x < 4294967296) (hc : c < 256) :
    Calls Tryz.prog 132 #[.int .u32 (x : Nat), .int .u8 (c : Nat)] w fun e w' => e = .returned (.int .u32 (intoS x c : Nat)) ∧ w = w' := by
  go_enter Tryz.func132, Tryz.ntmps132
  go_wp2
  go_loop [0, 9] (fun a i => ∃ k : Nat, k ≤ 8 ∧ i = .int .i64 k ∧ a = .int .u32 (stk k (x ^^^ c) : Nat)) (fun _ i => 8 - (intOf i).toNat)
  case atStart => exact ⟨0, by omega, rfl, val_u32 (u32_xor_nat x c hx (by omega))⟩
  case round =>
    obtain ⟨k, hk, rfl, rfl⟩ := hrel
    by_cases hlt : k < 8
    · have hy : stk k (x ^^^ c) < 4294967296 := stk_lt k (xor_lt hx (by omega))
      have hs := Lib.hid (stk_one k (x ^^^ c))
      generalize stk k (x ^^^ c) = y at *
      go_wp2
      go_round
      case rel => exact ⟨k + 1, by omega, by go_num, val_u32 (by rw [hs.out]; exact stp_walk y hy)⟩
      case measure => simp [intOf]; omega
    · obtain rfl : k = 8 := by omega
      go_wp2
      go_ret
      exact ⟨rfl, rfl⟩

theorem compl (x : Nat) (hx : x < 4294967296) : bits .xor .u32 IntKind.u32.max (x : Int) = ((4294967295 - x : Nat) : Int) := by
  have e : IntKind.u32.max = ((4294967295 : Nat) : Int) := by decide
  rw [e, all_xor hx]
  exact u32_xor_nat _ _ (by decide) hx

set_option maxHeartbeats 400000 in
theorem more_any (x : Nat) (s : ByteArray) (w : World) (hx : x < 4294967296) (hs : s.size ≤ maxLen) :
    Calls Tryz.prog 120 #[.int .u32 (x : Nat), .string s] w fun e w' => e = .returned (.int .u32 (moreS x s.data.toList : Nat)) ∧ w = w' := by
  unfold maxLen at hs
  go_enter Tryz.func120, Tryz.ntmps120
  go_wp2
  go_loop [5, 11] (fun a i => ∃ k : Nat, k ≤ s.size ∧ i = .int .i64 k ∧ a = .int .u32 (foldS (4294967295 - x) (s.data.toList.take k) : Nat)) (fun _ i => s.size - (intOf i).toNat)
  case atStart =>
    exact ⟨0, by omega, rfl, val_u32 (by rw [List.take_zero, foldS_nil]; exact compl x hx)⟩
  case round =>
    obtain ⟨k, hk, rfl, rfl⟩ := hrel
    have hy : foldS (4294967295 - x) (s.data.toList.take k) < 4294967296 := foldS_lt _ (by omega)
    by_cases hlt : k < s.size
    · have h1 := Lib.hid (take_snoc s k hlt)
      have h2 := Lib.hid (foldS_snoc (4294967295 - x) (s.data.toList.take k) s[k])
      have hc := (s[k]).toNat_lt
      generalize foldS (4294967295 - x) (s.data.toList.take k) = y at *
      go_wp2_with fail
      refine (into_any y _ _ hy hc).mono ?_
      rintro e w' ⟨rfl, rfl⟩
      go_wp2
      go_round
      case rel => exact ⟨k + 1, by omega, by go_num, val_u32 (by rw [h1.out, h2.out])⟩
      case measure => simp [intOf]; omega
    · obtain rfl : k = s.size := by omega
      have h1 : List.take s.size s.data.toList = s.data.toList := List.take_of_length_le (by simp)
      have hm : moreS x s.data.toList = 4294967295 - foldS (4294967295 - x) s.data.toList := rfl
      rw [h1] at hy ⊢
      clear h1
      generalize foldS (4294967295 - x) s.data.toList = y at *
      have Hm := Lib.hid hm
      clear hm
      go_wp2
      go_ret
      exact ⟨ret_u32 (by rw [Hm.out]; exact compl y hy), rfl⟩

theorem sum_any (s : ByteArray) (w : World) (hs : s.size ≤ maxLen) :
    Calls Tryz.prog 97 #[.string s] w fun e w' => e = .returned (.int .u32 (sumS s.data.toList : Nat)) ∧ w = w' := by
  have h := Lib.hid (fun w => more_any 0 s w (by decide) hs)
  unfold maxLen at hs
  go_enter Tryz.func97, Tryz.ntmps97
  go_wp2_with fail
  refine (h.out _).mono ?_
  rintro e w' ⟨rfl, rfl⟩
  go_wp2
  go_ret
  exact ⟨rfl, rfl⟩
end Go.Proofs.YtbhgngimebecdaaGreat

/- NumsPut -/
namespace Go.Proofs.YtbhgngimebecdaaGreat
open Go.RowKit
set_option linter.unusedVariables false

theorem be_at : ∀ (k n j : Nat) (h : j < (be k n).length), (be k n)[j] = UInt8.ofNat (n / 256 ^ (k - 1 - j))
  | 0, n, j, h => by simp [be] at h
  | k + 1, n, 0, h => by simp [be]
  | k + 1, n, j + 1, h => by
    have hj : j < (be k n).length := by simpa [be] using h
    have e : k + 1 - 1 - (j + 1) = k - 1 - j := by omega
    simp only [be, List.getElem_cons_succ, be_at k n j hj, e]

/-- What stands at place j of N, when k of n's bytes are laid from the end on. -/
def laidAt (n N k j : Nat) : Value := .int .u8 (if j + k < N then 0 else ((n / 256 ^ (N - 1 - j) % 256 : Nat) : Int))

theorem laid_step (n N k j : Nat) (hk : k < N) : (if j = N - 1 - k then Value.int .u8 ((n / 256 ^ k % 256 : Nat) : Int) else laidAt n N k j) = laidAt n N (k + 1) j := by
  unfold laidAt
  by_cases h : j = N - 1 - k
  · have e : N - 1 - j = k := by omega
    rw [if_pos h, if_neg (by omega), e]
  · rw [if_neg h]
    by_cases h2 : j + k < N
    · rw [if_pos h2, if_pos (by omega)]
    · rw [if_neg h2, if_neg (by omega)]

theorem laid_full (n N j : Nat) (h : j < (be N n).length) : laidAt n N N j = .int .u8 ((be N n)[j].toNat : Int) := by
  unfold laidAt
  rw [if_neg (by omega), be_at, UInt8.toNat_ofNat']

theorem byte_val (n k : Nat) : (n : Int) / 2 ^ (8 * k) % 256 = ((n / 256 ^ k % 256 : Nat) : Int) := by
  have e : (2 : Nat) ^ (8 * k) = 256 ^ k := by rw [Nat.pow_mul]
  rw [← e, Int.natCast_emod, Int.natCast_ediv, Int.natCast_pow]; rfl

theorem put_none (n : Nat) (size : Int) (w : World) (h : size < 1 ∨ 8 < size) :
    Calls Tryz.prog 59 #[.int .u64 (n : Nat), .int .i64 size] w fun e w' => e = .returned (.string ByteArray.empty) ∧ w = w' := by
  rcases h with h | h
  all_goals
    go_enter Tryz.func59, Tryz.ntmps59
    go_wp2
    go_ret
    exact ⟨rfl, rfl⟩

set_option maxHeartbeats 400000 in
theorem put_some (n N : Nat) (w : World) (h1 : 1 ≤ N) (h8 : N ≤ 8) (hn : n < 18446744073709551616) :
    Calls Tryz.prog 59 #[.int .u64 (n : Nat), .int .i64 (N : Nat)] w fun e w' => e = .returned (.string (bs (be N n))) ∧ Below w.heap.size w w' := by
  have hmk := run_make_row' (P := Tryz.prog) 22 5 (.int .u8 0) 1 Tryz.underlying22 (by kernel_rfl) rfl .i64 .i64 N (by omega) (by omega)
  go_enter Tryz.func59, Tryz.ntmps59
  go_wp2
  go_loopw [16] (fun i wr => ∃ k : Nat, k ≤ N ∧ i = .int .i64 k ∧ wr.rowIs w.heap.size 5 N (laidAt n N k) ∧ Below w.heap.size w wr) (fun i _ => N - (intOf i).toNat)
  case atStart => exact ⟨0, Nat.zero_le _, rfl, (World.rowIs_made _ _ _ _).congr (fun j hj => by unfold laidAt; rw [if_pos (by omega)]), (Below.refl _ _).alloc (Nat.le_refl _) _⟩
  case round =>
    obtain ⟨k, hk, rfl, hrow, hbel⟩ := hrel
    by_cases hlt : k < N
    · have hcell := hrow.cell (i := N - 1 - k) (by omega)
      have hfz := hrow.frozen (N - 1 - k)
      go_wp2
      go_roundw
      case rel =>
        rw [byte_val n k]
        exact ⟨k + 1, by omega, by go_num, (hrow.set _ _).congr (fun j _ => laid_step n N k j hlt), hbel.setCell (Nat.le_refl _) _⟩
      case measure => simp [intOf]; omega
    · obtain rfl : k = N := by omega
      have hcv : (convert 22 9 (.slice (some ⟨w.heap.size, 0, none⟩) k k)).run Tryz.prog wr = .ok (.string (bs (be k n))) wr := by
        have h := run_convert_bytes_back (P := Tryz.prog) wr 22 9 5 ⟨w.heap.size, 0, none⟩ k (be k n) Tryz.underlying22 Tryz.underlying5 Tryz.underlying9
          (fun j hj => by
            have e : (⟨w.heap.size, 0, none⟩ : Addr).add j = ⟨w.heap.size, j, none⟩ := by simp [Addr.add]; omega
            rw [e, hrow.cell (by rw [be_length] at hj; exact hj), laid_full n k j hj])
        rw [be_length] at h
        exact h
      go_wp2
      go_ret
      exact ⟨rfl, hbel⟩

theorem put_any (n : Nat) (size : Int) (w : World) (hn : n < 18446744073709551616) :
    Calls Tryz.prog 59 #[.int .u64 (n : Nat), .int .i64 size] w fun e w' => e = .returned (.string (putS n size)) ∧ Below w.heap.size w w' := by
  unfold putS
  by_cases h : 1 ≤ size ∧ size ≤ 8
  · rw [if_pos h]
    obtain ⟨N, rfl⟩ : ∃ N : Nat, size = N := ⟨size.toNat, by omega⟩
    exact put_some n N w (by omega) (by omega) hn
  · rw [if_neg h]
    exact (put_none n size w (by omega)).mono fun e w' ⟨he, hw⟩ => ⟨he, hw ▸ Below.refl _ _⟩
end Go.Proofs.YtbhgngimebecdaaGreat

/- Twist -/
namespace Go.Proofs.YtbhgngimebecdaaGreat
open Go.RowKit
set_option linter.unusedVariables false

/-- A list of which i bytes from place k on are turned over by y's bytes, the lowest one first. -/
def tw (y k i : Nat) (l : List UInt8) : List UInt8 := l.mapIdx fun j c => if k ≤ j ∧ j < k + i then c ^^^ UInt8.ofNat (y / 256 ^ (j - k)) else c
theorem tw_length (y k i : Nat) (l : List UInt8) : (tw y k i l).length = l.length := by unfold tw; rw [List.length_mapIdx]
theorem tw_at (y k i : Nat) (l : List UInt8) (j : Nat) : (tw y k i l)[j]? = (l[j]?).map fun c => if k ≤ j ∧ j < k + i then c ^^^ UInt8.ofNat (y / 256 ^ (j - k)) else c := by
  unfold tw
  rw [List.getElem?_mapIdx]
theorem tw_zero (y k : Nat) (l : List UInt8) : tw y k 0 l = l := by
  apply List.ext_getElem?
  intro j
  rw [tw_at]
  cases h : l[j]? with
  | none => rfl
  | some c => simp; omega
theorem tw_out (y k i : Nat) (l : List UInt8) (j : Nat) (h : j < k ∨ k + i ≤ j) : (tw y k i l)[j]? = l[j]? := by
  rw [tw_at]
  cases h : l[j]? with
  | none => rfl
  | some c => rw [Option.map_some, if_neg (by omega)]
/-- One byte more. -/
theorem tw_step (y k i n : Nat) (l : List UInt8) (hl : l.length = n) (j : Nat) (hj : j < n) (hk : k + i < n) :
    (if j = k + i then Value.int .u8 (bits .xor .u8 (((tw y k i l).getD (k + i) 0).toNat : Int) ((y : Int) / 2 ^ (8 * i) % 256)) else u8At (tw y k i l) j) = u8At (tw y k (i + 1) l) j := by
  have hc : ((tw y k i l).getD (k + i) 0) = l.getD (k + i) 0 := by
    rw [List.getD_eq_getElem?_getD, List.getD_eq_getElem?_getD, tw_out y k i l _ (by omega)]
  by_cases h : j = k + i
  · rw [if_pos h, h, hc, byte_val, u8_xor_nat _ _ (UInt8.toNat_lt _) (Nat.mod_lt _ (by decide))]
    unfold u8At
    rw [List.getD_eq_getElem?_getD, List.getD_eq_getElem?_getD, tw_at, List.getElem?_eq_getElem (by omega)]
    simp only [Option.getD_some, Option.map_some]
    rw [if_pos (by omega), UInt8.toNat_xor, UInt8.toNat_ofNat', show k + i - k = i by omega]
  · rw [if_neg h]
    unfold u8At
    rw [List.getD_eq_getElem?_getD, List.getD_eq_getElem?_getD, tw_at, tw_at]
    cases e : l[j]? with
    | none => rfl
    | some c =>
      simp only [Option.map_some]
      by_cases h2 : k ≤ j ∧ j < k + i
      · rw [if_pos h2, if_pos (by omega)]
      · rw [if_neg h2, if_neg (by omega)]
theorem byte_zero (y : Nat) (hy : y < 4294967296) (h : ∀ i, i < 4 → UInt8.ofNat (y / 256 ^ i) = 0) : y = 0 := by
  have p1 : (256 : Nat) ^ 1 = 256 := by decide
  have p2 : (256 : Nat) ^ 2 = 65536 := by decide
  have p3 : (256 : Nat) ^ 3 = 16777216 := by decide
  have h' : ∀ i, i < 4 → y / 256 ^ i % 256 = 0 := fun i hi => by
    have e := congrArg UInt8.toNat (h i hi)
    rw [UInt8.toNat_ofNat'] at e
    exact e
  have h0 := h' 0 (by decide)
  have h1 := h' 1 (by decide)
  have h2 := h' 2 (by decide)
  have h3 := h' 3 (by decide)
  rw [Nat.pow_zero, Nat.div_one] at h0
  rw [p1] at h1
  rw [p2] at h2
  rw [p3] at h3
  omega
theorem xor_self8 {a b : UInt8} (h : a ^^^ b = a) : b = 0 := by
  have h1 := congrArg UInt8.toNat h
  rw [UInt8.toNat_xor] at h1
  have h2 : a.toNat ^^^ b.toNat = a.toNat ^^^ 0 := by rw [h1, Nat.xor_zero]
  exact UInt8.toNat_inj.1 (xor_cancel h2)
theorem tw_other (y k : Nat) (l : List UInt8) (hy : y < 4294967296) (h0 : y ≠ 0) (hk : k + 4 ≤ l.length) : tw y k 4 l ≠ l := by
  intro e
  apply h0
  apply byte_zero y hy
  intro i hi
  have h := tw_at y k 4 l (k + i)
  rw [e, List.getElem?_eq_getElem (by omega)] at h
  simp only [Option.map_some, Option.some.injEq] at h
  rw [if_pos (by omega), show k + i - k = i by omega] at h
  exact xor_self8 h.symm

/-- Lists that differ within four places, side by side, alone, and have one state behind them, are the same. -/
theorem window {x : Nat} (hx : x < 4294967296) (l m : List UInt8) (k : Nat) (hl : l.length = m.length) (ho : ∀ j, j < k ∨ k + 4 ≤ j → l[j]? = m[j]?) (e : foldS x l = foldS x m) : l = m := by
  have cut : ∀ l : List UInt8, l = l.take k ++ (l.drop k).take 4 ++ l.drop (k + 4) := fun l => by
    have h1 := List.take_append_drop k l
    have h2 := List.take_append_drop 4 (l.drop k)
    rw [List.drop_drop] at h2
    rw [List.append_assoc, h2, h1]
  have e1 : l.take k = m.take k := by
    apply List.ext_getElem?
    intro j
    rw [List.getElem?_take, List.getElem?_take]
    split
    · exact ho j (Or.inl (by omega))
    · rfl
  have e2 : l.drop (k + 4) = m.drop (k + 4) := by
    apply List.ext_getElem?
    intro j
    rw [List.getElem?_drop, List.getElem?_drop]
    exact ho _ (Or.inr (by omega))
  rw [cut l, cut m, e1, e2] at e
  have h := foldS_turned hx _ _ (by simp only [List.length_take, List.length_drop]; omega) (by rw [List.length_take]; omega) e
  rw [cut l, cut m, e1, e2, h]
end Go.Proofs.YtbhgngimebecdaaGreat

/- NumsGet -/
namespace Go.Proofs.YtbhgngimebecdaaGreat
open Go.RowKit
set_option linter.unusedVariables false

theorem pow8 : (256 : Nat) ^ 8 = 18446744073709551616 := by decide
theorem un_take_lt (s : ByteArray) (k : Nat) (h : k ≤ 7) : un (s.data.toList.take k) ≤ 72057594037927935 := by
  have h1 := un_lt (s.data.toList.take k)
  have h2 : (s.data.toList.take k).length ≤ 7 := by rw [List.length_take]; omega
  have h3 : 256 ^ (s.data.toList.take k).length ≤ 256 ^ 7 := Nat.pow_le_pow_right (by decide) h2
  have : (256 : Nat) ^ 7 = 72057594037927936 := by decide
  omega
theorem getS_step (s : ByteArray) (k : Nat) (h : k < s.size) : un (s.data.toList.take (k + 1)) = un (s.data.toList.take k) * 256 + (s[k]).toNat := by
  rw [take_snoc s k h, un_snoc]
theorem getS_end (s : ByteArray) (k : Nat) (h : k = s.size ∨ k = 8) (hk : k ≤ 8) : un (s.data.toList.take k) = getS s := by
  unfold getS
  rcases h with h | h
  · subst h
    rw [List.take_of_length_le (by simp), List.take_of_length_le (by simp; omega)]
  · rw [h]

theorem or_byte (a c : Nat) (ha : a ≤ 72057594037927935) (hc : c < 2 ^ 8) : bits .or .u64 ((a : Int) * 256) (c : Int) = ((a * 256 + c : Nat) : Int) := by
  have e : (a : Int) * 256 = ((a * 256 : Nat) : Int) := by omega
  have h := Nat.shiftLeft_add_eq_or_of_lt hc a
  rw [Nat.shiftLeft_eq] at h
  have h1 : (BitVec.ofInt 64 ((a * 256 : Nat) : Int)).toNat = a * 256 := by
    rw [BitVec.ofInt_natCast, BitVec.toNat_ofNat]; exact Nat.mod_eq_of_lt (by omega)
  have h2 : (BitVec.ofInt 64 (c : Int)).toNat = c := by
    rw [BitVec.ofInt_natCast, BitVec.toNat_ofNat]; exact Nat.mod_eq_of_lt (by omega)
  rw [e]
  show IntKind.u64.wrap ((BitVec.ofInt 64 ((a * 256 : Nat) : Int) ||| BitVec.ofInt 64 (c : Int)).toNat : Int) = _
  rw [BitVec.toNat_or, h1, h2, ← show a * 256 + c = a * 256 ||| c from h, IntKind.wrap_u64]
  omega

set_option maxHeartbeats 400000 in
theorem get_any (s : ByteArray) (w : World) (hs : s.size ≤ maxLen) :
    Calls Tryz.prog 109 #[.string s] w fun e w' => e = .returned (.int .u64 (getS s : Nat)) ∧ w = w' := by
  unfold maxLen at hs
  by_cases h8 : s.size ≤ 8
  all_goals
    go_enter Tryz.func109, Tryz.ntmps109
    go_wp2
    go_loop [3, 8] (fun n i => ∃ k : Nat, k ≤ s.size ∧ k ≤ 8 ∧ i = .int .i64 k ∧ n = .int .u64 (un (s.data.toList.take k) : Nat)) (fun _ i => 8 - (intOf i).toNat)
    case atStart => exact ⟨0, Nat.zero_le _, by omega, rfl, rfl⟩
    case round =>
      obtain ⟨k, hk, hk8, rfl, rfl⟩ := hrel
      by_cases hlt : k < s.size ∧ k < 8
      · obtain ⟨h1, h2⟩ := hlt
        have hb := un_take_lt s k (by omega)
        have hst := Lib.hid (getS_step s k h1)
        have hc := (s[k]).toNat_lt
        go_wp2
        go_round
        case rel => exact ⟨k + 1, by omega, by omega, by go_num, by rw [hst.out, or_byte _ _ (by omega) hc]⟩
        case measure => simp [intOf]; omega
      · have hend := Lib.hid (getS_end s k (by omega) hk8)
        go_wp2
        go_ret
        exact ⟨ret_int (by rw [hend.out]), rfl⟩
end Go.Proofs.YtbhgngimebecdaaGreat

/- NumsGetRef -/
namespace Go.Proofs.YtbhgngimebecdaaGreat
open Go.RowKit
set_option linter.unusedVariables false

set_option maxHeartbeats 400000 in
theorem get_ref (s : ByteArray) (w : World) (hs : s.size ≤ maxLen) :
    Calls Tryz.prog 73 #[.string s] w fun e w' => e = .returned (.int .u64 (getS s : Nat)) ∧ w = w' := by
  unfold maxLen at hs
  go_enter Tryz.func73, Tryz.ntmps73
  go_wp2
  go_loop [3, 4] (fun n i => ∃ k : Nat, k ≤ s.size ∧ k ≤ 8 ∧ i = .int .i64 k ∧ n = .int .u64 (un (s.data.toList.take k) : Nat)) (fun _ i => 8 - (intOf i).toNat)
  case atStart => exact ⟨0, Nat.zero_le _, by omega, rfl, rfl⟩
  case round =>
    obtain ⟨k, hk, hk8, rfl, rfl⟩ := hrel
    by_cases hlt : k < s.size ∧ k < 8
    · obtain ⟨h1, h2⟩ := hlt
      have hb := un_take_lt s k (by omega)
      have hst := Lib.hid (getS_step s k h1)
      have hc := (s[k]).toNat_lt
      go_wp2
      go_round
      case rel => exact ⟨k + 1, by omega, by omega, by go_num, by rw [hst.out]; go_num⟩
      case measure => simp [intOf]; omega
    · have hend := Lib.hid (getS_end s k (by omega) hk8)
      by_cases h1 : k < s.size
      all_goals
        go_wp2
        go_ret
        exact ⟨ret_int (by rw [hend.out]), rfl⟩
end Go.Proofs.YtbhgngimebecdaaGreat

/- SumsIntoRef -/
namespace Go.Proofs.YtbhgngimebecdaaGreat
open Go.RowKit
set_option linter.unusedVariables false

/-- The document's state, when k of the byte's bits went in. -/
def refS (x c k : Nat) : Nat := stk k (x ^^^ c % 2 ^ k)
theorem refS_zero (x c : Nat) : refS x c 0 = x := by simp [refS, stk, Nat.mod_one]
theorem refS_all (x c : Nat) (hc : c < 256) : refS x c 8 = intoS x c := by
  unfold refS intoS
  rw [show c % 2 ^ 8 = c from Nat.mod_eq_of_lt hc]
theorem refS_lt (x c k : Nat) (hx : x < 4294967296) (hc : c < 256) : refS x c k < 4294967296 := by
  have h1 := Nat.mod_le c (2 ^ k)
  exact stk_lt k (xor_lt hx (by omega))
theorem mod_step (c k : Nat) : c % 2 ^ (k + 1) = c % 2 ^ k ^^^ 2 ^ k * (c / 2 ^ k % 2) := by
  have hl : c % 2 ^ k < 2 ^ k := Nat.mod_lt _ (Nat.two_pow_pos k)
  apply Nat.eq_of_testBit_eq
  intro i
  have h0 := Nat.testBit_two_pow_mul_add (c / 2 ^ k % 2) (b := 0) (i := k) (Nat.two_pow_pos k) i
  rw [Nat.add_zero] at h0
  rw [Nat.testBit_xor, h0, Nat.testBit_mod_two_pow, Nat.testBit_mod_two_pow, Nat.zero_testBit]
  by_cases h1 : i < k
  · simp [h1, show i < k + 1 by omega]
  · by_cases h2 : i = k
    · subst h2
      have h3 : (c / 2 ^ i % 2).testBit 0 = c.testBit i := by
        rw [Nat.testBit_zero, Nat.testBit_eq_decide_div_mod_eq]
        simp
      simp [h3]
    · have h3 : i - k ≠ 0 := by omega
      have h4 : (c / 2 ^ k % 2).testBit (i - k) = false := by
        apply Nat.testBit_lt_two_pow
        have h5 : 2 ^ 1 ≤ 2 ^ (i - k) := Nat.pow_le_pow_right (by decide) (by omega)
        have h6 : c / 2 ^ k % 2 < 2 := Nat.mod_lt _ (by decide)
        omega
      simp [h1, h4, show ¬ i < k + 1 by omega]
theorem stp_bit (y b : Nat) (hb : b < 2) : stp (y ^^^ b) = y / 2 ^^^ ((y + b) % 2 * 3988292384) := by
  unfold stp
  have h1 : (y ^^^ b) / 2 = y / 2 ^^^ b / 2 := Nat.xor_div_two
  have h2 : (y ^^^ b) % 2 = y % 2 ^^^ b % 2 := Nat.xor_mod_two_pow (n := 1)
  have h3 : b / 2 = 0 := by omega
  rw [h3, Nat.xor_zero] at h1
  rw [h1, h2]
  congr 2
  have e1 : (y + b) % 2 = (y % 2 + b) % 2 := by omega
  have e2 : b % 2 = b := by omega
  rw [e1, e2]
  have h4 : y % 2 < 2 := Nat.mod_lt _ (by decide)
  generalize y % 2 = r at *
  match r, b, h4, hb with
  | 0, 0, _, _ => rfl
  | 0, 1, _, _ => rfl
  | 1, 0, _, _ => rfl
  | 1, 1, _, _ => rfl
theorem refS_step (x c k : Nat) : refS x c (k + 1) = refS x c k / 2 ^^^ ((refS x c k + c / 2 ^ k) % 2 * 3988292384) := by
  have h : (refS x c k + c / 2 ^ k) % 2 = (refS x c k + c / 2 ^ k % 2) % 2 := by omega
  rw [h, ← stp_bit _ _ (Nat.mod_lt _ (by decide))]
  unfold refS
  rw [stk_one, mod_step, ← Nat.xor_assoc, stk_xor k, stk_shift]
theorem refS_one {x c k : Nat} (hx : refS x c k < 4294967296) (h : (((refS x c k : Nat) : Int) + (c : Int) / 2 ^ k) % 2 = 1) : bits .xor .u32 (((refS x c k : Nat) : Int) / 2) 3988292384 = ((refS x c (k + 1) : Nat) : Int) := by
  have e : (c : Int) / 2 ^ k = ((c / 2 ^ k : Nat) : Int) := by rw [Int.natCast_ediv, Int.natCast_pow]; rfl
  rw [e] at h
  rw [refS_step]
  generalize refS x c k = y at *
  generalize c / 2 ^ k = z at *
  have h1 : (y + z) % 2 = 1 := by omega
  have h3 : (y : Int) / 2 = ((y / 2 : Nat) : Int) := by omega
  rw [h1, Nat.one_mul, h3]
  exact u32_xor_nat _ _ (by omega) (by decide)
theorem refS_nought {x c k : Nat} (h : ¬ (((refS x c k : Nat) : Int) + (c : Int) / 2 ^ k) % 2 = 1) : ((refS x c k : Nat) : Int) / 2 = ((refS x c (k + 1) : Nat) : Int) := by
  have e : (c : Int) / 2 ^ k = ((c / 2 ^ k : Nat) : Int) := by rw [Int.natCast_ediv, Int.natCast_pow]; rfl
  rw [e] at h
  rw [refS_step]
  generalize refS x c k = y at *
  generalize c / 2 ^ k = z at *
  have h1 : (y + z) % 2 = 0 := by omega
  rw [h1, Nat.zero_mul, Nat.xor_zero]
  omega

set_option maxHeartbeats 400000 in
theorem into_ref (x c : Nat) (w : World) (hx : x < 4294967296) (hc : c < 256) :
    Calls Tryz.prog 127 #[.int .u32 (x : Nat), .int .u8 (c : Nat)] w fun e w' => e = .returned (.int .u32 (intoS x c : Nat)) ∧ w = w' := by
  go_enter Tryz.func127, Tryz.ntmps127
  go_wp2
  go_loop [0, 5] (fun a i => ∃ k : Nat, k ≤ 8 ∧ i = .int .i64 k ∧ a = .int .u32 (refS x c k : Nat)) (fun _ i => 8 - (intOf i).toNat)
  case atStart => exact ⟨0, by omega, rfl, by rw [refS_zero]⟩
  case round =>
    obtain ⟨k, hk, rfl, rfl⟩ := hrel
    by_cases hlt : k < 8
    · have hy := refS_lt x c k hx hc
      have h1 := Lib.hid (refS_one hy)
      have h2 := Lib.hid (refS_nought (x := x) (c := c) (k := k))
      generalize refS x c k = y at *
      go_wp2
      · go_round
        case rel => exact ⟨k + 1, by omega, by go_num, val_u32 (h1.out (beq_iff_eq.1 (by assumption)))⟩
        case measure => simp [intOf]; omega
      · go_round
        case rel => exact ⟨k + 1, by omega, by go_num, val_u32 (h2.out (beq_eq_false_iff_ne.1 (by assumption)))⟩
        case measure => simp [intOf]; omega
    · obtain rfl : k = 8 := by omega
      have h := Lib.hid (refS_all x c hc)
      go_wp2
      go_ret
      exact ⟨ret_u32 (by rw [h.out]), rfl⟩

set_option maxHeartbeats 400000 in
theorem more_ref (x : Nat) (s : ByteArray) (w : World) (hx : x < 4294967296) (hs : s.size ≤ maxLen) :
    Calls Tryz.prog 110 #[.int .u32 (x : Nat), .string s] w fun e w' => e = .returned (.int .u32 (moreS x s.data.toList : Nat)) ∧ w = w' := by
  unfold maxLen at hs
  go_enter Tryz.func110, Tryz.ntmps110
  go_wp2
  go_loop [5, 6] (fun a i => ∃ k : Nat, k ≤ s.size ∧ i = .int .i64 k ∧ a = .int .u32 (foldS (4294967295 - x) (s.data.toList.take k) : Nat)) (fun _ i => s.size - (intOf i).toNat)
  case atStart => exact ⟨0, by omega, rfl, val_u32 (by rw [List.take_zero, foldS_nil]; omega)⟩
  case round =>
    obtain ⟨k, hk, rfl, rfl⟩ := hrel
    have hy : foldS (4294967295 - x) (s.data.toList.take k) < 4294967296 := foldS_lt _ (by omega)
    by_cases hlt : k < s.size
    · have h1 := Lib.hid (take_snoc s k hlt)
      have h2 := Lib.hid (foldS_snoc (4294967295 - x) (s.data.toList.take k) s[k])
      have hc := (s[k]).toNat_lt
      generalize foldS (4294967295 - x) (s.data.toList.take k) = y at *
      go_wp2_with fail
      refine (into_ref y _ _ hy hc).mono ?_
      rintro e w' ⟨rfl, rfl⟩
      go_wp2
      go_round
      case rel => exact ⟨k + 1, by omega, by go_num, val_u32 (by rw [h1.out, h2.out])⟩
      case measure => simp [intOf]; omega
    · obtain rfl : k = s.size := by omega
      have h1 : List.take s.size s.data.toList = s.data.toList := List.take_of_length_le (by simp)
      have hm : moreS x s.data.toList = 4294967295 - foldS (4294967295 - x) s.data.toList := rfl
      rw [h1] at hy ⊢
      clear h1
      generalize foldS (4294967295 - x) s.data.toList = y at *
      have Hm := Lib.hid hm
      clear hm
      go_wp2
      go_ret
      exact ⟨ret_u32 (by rw [Hm.out]; omega), rfl⟩

theorem sum_ref (s : ByteArray) (w : World) (hs : s.size ≤ maxLen) :
    Calls Tryz.prog 92 #[.string s] w fun e w' => e = .returned (.int .u32 (sumS s.data.toList : Nat)) ∧ w = w' := by
  have h := Lib.hid (fun w => more_ref 0 s w (by decide) hs)
  unfold maxLen at hs
  go_enter Tryz.func92, Tryz.ntmps92
  go_wp2_with fail
  refine (h.out _).mono ?_
  rintro e w' ⟨rfl, rfl⟩
  go_wp2
  go_ret
  exact ⟨rfl, rfl⟩
end Go.Proofs.YtbhgngimebecdaaGreat

/- NumsPutRef -/
namespace Go.Proofs.YtbhgngimebecdaaGreat
open Go.RowKit
set_option linter.unusedVariables false

theorem putr_none (n : Nat) (size : Int) (w : World) (h : size < 1 ∨ 8 < size) :
    Calls Tryz.prog 75 #[.int .u64 (n : Nat), .int .i64 size] w fun e w' => e = .returned (.string ByteArray.empty) ∧ w = w' := by
  rcases h with h | h
  all_goals
    go_enter Tryz.func75, Tryz.ntmps75
    go_wp2
    go_ret
    exact ⟨rfl, rfl⟩

theorem conv_one {m : Nat} : ∀ wx : World, (convert 22 9 (.slice (some ⟨wx.heap.size, 0, none⟩) 1 1)).run Tryz.prog (wx.alloc (.cells #[.int .u8 ((m : Int) % 256)] 5)) = .ok (.string (bs [UInt8.ofNat m])) (wx.alloc (.cells #[.int .u8 ((m : Int) % 256)] 5)) := fun wx => by
  refine run_convert_bytes_back (P := Tryz.prog) _ 22 9 5 ⟨wx.heap.size, 0, none⟩ 1 [UInt8.ofNat m] Tryz.underlying22 Tryz.underlying5 Tryz.underlying9 (fun j hj => ?_)
  obtain rfl : j = 0 := by simpa using hj
  have e : (⟨wx.heap.size, 0, none⟩ : Addr).add 0 = ⟨wx.heap.size, 0, none⟩ := by simp [Addr.add]
  rw [e, World.cell?_alloc_at _ _ _ _ rfl]
  simp

set_option maxHeartbeats 400000 in
theorem putr_some (n N : Nat) (w : World) (h1 : 1 ≤ N) (h8 : N ≤ 8) (hn : n < 18446744073709551616) :
    Calls Tryz.prog 75 #[.int .u64 (n : Nat), .int .i64 (N : Nat)] w fun e w' => e = .returned (.string (bs (be N n))) ∧ Below w.heap.size w w' := by
  go_enter Tryz.func75, Tryz.ntmps75
  go_wp2
  go_loopw [0, 5, 6] (fun m s i wr => ∃ k : Nat, k ≤ N ∧ i = .int .i64 k ∧ m = .int .u64 (n / 256 ^ k : Nat) ∧ s = .string (bs (be k n)) ∧ Below w.heap.size w wr) (fun _ _ i _ => N - (intOf i).toNat)
  case atStart => exact ⟨0, Nat.zero_le _, rfl, by simp, rfl, Below.refl _ _⟩
  case round =>
    obtain ⟨k, hk, rfl, rfl, rfl, hbel⟩ := hrel
    by_cases hlt : k < N
    · obtain ⟨m, hm⟩ : ∃ m, n / 256 ^ k = m := ⟨_, rfl⟩
      have hb : UInt8.ofNat m :: be k n = be (k + 1) n := by rw [be, hm]
      have hm2 : n / 256 ^ (k + 1) = m / 256 := by rw [Nat.pow_succ, ← Nat.div_div_eq_div_mul, hm]
      have hcv := conv_one (m := m)
      have hadd : ∀ wx : World, (Op.stringOp .add (bs [UInt8.ofNat m]) (bs (be k n))).run Tryz.prog wx = .ok (.string (bs (be (k + 1) n))) wx := fun wx => by
        have h := run_string_add_sum (P := Tryz.prog) (w := wx) (bs [UInt8.ofNat m]) (bs (be k n)) (by rw [bs_size, bs_size, be_length]; simp; omega)
        rw [bs_append, List.singleton_append, hb] at h
        exact h
      have hm64 : m ≤ 18446744073709551615 := by rw [← hm]; exact Nat.le_trans (Nat.div_le_self _ _) (by omega)
      rw [hm]
      have Hm := Lib.hid hm2
      clear hm hm2 hb
      go_wp2
      go_roundw
      case rel => exact ⟨k + 1, by omega, by go_num, by rw [Hm.out]; go_num, rfl, hbel.alloc hbel.size _⟩
      case measure => simp [intOf]; omega
    · obtain rfl : k = N := by omega
      go_wp2
      go_ret
      exact ⟨rfl, hbel⟩

theorem putr_any (n : Nat) (size : Int) (w : World) (hn : n < 18446744073709551616) :
    Calls Tryz.prog 75 #[.int .u64 (n : Nat), .int .i64 size] w fun e w' => e = .returned (.string (putS n size)) ∧ Below w.heap.size w w' := by
  unfold putS
  by_cases h : 1 ≤ size ∧ size ≤ 8
  · rw [if_pos h]
    obtain ⟨N, rfl⟩ : ∃ N : Nat, size = N := ⟨size.toNat, by omega⟩
    exact putr_some n N w (by omega) (by omega) hn
  · rw [if_neg h]
    exact (putr_none n size w (by omega)).mono fun e w' ⟨he, hw⟩ => ⟨he, hw ▸ Below.refl _ _⟩
end Go.Proofs.YtbhgngimebecdaaGreat

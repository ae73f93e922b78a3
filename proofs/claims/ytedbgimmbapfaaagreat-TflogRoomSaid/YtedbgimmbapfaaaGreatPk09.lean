/- DiskRefRename, Bytes, DiskRefSpoil, DiskRefNew, IntsIn -/
import Derived.Test.YtedbgimmbapfaaaGreatPk08
import Derived.Test.YtedbgimmbapfaaaGreatPk01
import Derived.Test.YtedbgimmbapfaaaGreatPk05
import Derived.Test.YtedbgimmbapfaaaGreatPk04
/- DiskRefRename -/
namespace Go.Proofs.YtedbgimmbapfaaaGreat
open Go.RowKit
set_option linter.unusedVariables false

theorem renameS_down {D : DiskS} {n tn : ByteArray} (hd : D.down = true) : renameS D n tn = (61, D) := by
  unfold renameS
  rw [if_pos hd]
theorem renameS_none {D : DiskS} {n tn : ByteArray} (hd : D.down = false) (hf : ¬ findS D.l n < D.l.length) : renameS D n tn = (4, D) := by
  unfold renameS
  rw [if_neg (by rw [hd]; decide), if_neg hf]
theorem renameS_arg {D : DiskS} {n tn : ByteArray} (hd : D.down = false) (hf : findS D.l n < D.l.length) (hn : nameB tn = false) : renameS D n tn = (2, D) := by
  unfold renameS
  rw [if_neg (by rw [hd]; decide), if_pos hf, hn, if_pos (by decide)]
theorem renameS_go {D : DiskS} {n tn : ByteArray} (hd : D.down = false) (hf : findS D.l n < D.l.length) (hn : nameB tn = true) :
    renameS D n tn = if goesS D then (0, { nextS D with l := if n = tn then D.l else renameL D.l (findS D.l n) tn }) else (61, sinkS D D.keep) := by
  unfold renameS doneS
  rw [if_neg (by rw [hd]; decide), if_pos hf, hn, if_neg (by decide)]
  rfl
/-- A file of that name is taken away, if there is one. -/
def clearL (m : List FileS) (tn : ByteArray) : List FileS := if findS m tn < m.length then dropS m (findS m tn) else m
theorem renameL_at {l : List FileS} {i : Nat} {f : FileS} {tn : ByteArray} (h : l[i]? = some f) : renameL l i tn = layS (clearL (dropS l i) tn) { f with name := tn } := by
  unfold renameL
  rw [h]
  rfl
theorem dropS_length {l : List FileS} {i : Nat} (h : i < l.length) : (dropS l i).length + 1 = l.length := by
  unfold dropS
  rw [List.length_append, List.length_take, List.length_drop]
  omega
theorem clearL_length (m : List FileS) (tn : ByteArray) : (clearL m tn).length ≤ m.length := by
  unfold clearL
  split
  · rename_i h
    have := dropS_length h
    omega
  · exact Nat.le_refl _

end Go.Proofs.YtedbgimmbapfaaaGreat

/- Bytes -/
namespace Go.Proofs.YtedbgimmbapfaaaGreat
open Go.RowKit
set_option linter.unusedVariables false

/-- The first n cells of block b are known, and none of them is marked. -/
def RowB (w : World) (b : Nat) (n : Nat) (f : Nat → Value) : Prop :=
  ∃ (c : Array Value) (t : TypeId) (fr : Nat × Nat), w.heap[b]? = some (.cells c t fr) ∧ n ≤ c.size ∧ (fr = (0, 0) ∨ n ≤ fr.1) ∧ ∀ i, i < n → c[i]? = some (f i)
namespace RowB
variable {w : World} {b n : Nat} {f g : Nat → Value}
theorem cell (h : RowB w b n f) {i : Nat} (hi : i < n) : w.cell? ⟨b, i, none⟩ = some (f i) := by
  obtain ⟨c, t, fr, hb, _, _, hc⟩ := h
  simp [World.cell?, hb, hc i hi]
theorem frozen (h : RowB w b n f) {i : Nat} (hi : i < n) : w.frozen? ⟨b, i, none⟩ = false := by
  obtain ⟨c, t, ⟨lo, hi'⟩, hb, _, hf, _⟩ := h
  rcases hf with hf | hf
  · cases hf
    simp [World.frozen?, hb]
  · have hf' : n ≤ lo := hf
    simp [World.frozen?, hb]
    omega
theorem lt (h : RowB w b n f) : b < w.heap.size := by
  obtain ⟨c, t, fr, hb, _⟩ := h
  obtain ⟨hlt, _⟩ := Array.getElem?_eq_some_iff.1 hb
  exact hlt
theorem congr (h : RowB w b n f) (e : ∀ i, i < n → f i = g i) : RowB w b n g := by
  obtain ⟨c, t, fr, hb, hn, hf, hc⟩ := h
  exact ⟨c, t, fr, hb, hn, hf, fun i hi => by rw [hc i hi, e i hi]⟩
theorem of_block {w' : World} (h : RowB w b n f) (e : w'.heap[b]? = w.heap[b]?) : RowB w' b n f := by
  obtain ⟨c, t, fr, hb, hn, hf, hc⟩ := h
  exact ⟨c, t, fr, e.trans hb, hn, hf, hc⟩
theorem below {w' : World} (h : RowB w b n f) (hb : Below w.heap.size w w') : RowB w' b n f := h.of_block (hb.block _ h.lt)
theorem drew (h : RowB w b n f) : RowB w.drew b n f := h
theorem set (h : RowB w b n f) (i : Nat) (v : Value) : RowB (w.setCell ⟨b, i, none⟩ v) b n (fun j => if j = i then v else f j) := by
  obtain ⟨c, t, fr, hb, hn, hf, hc⟩ := h
  refine ⟨c.setIfInBounds i v, t, fr, ?_, by simpa using hn, hf, fun j hj => ?_⟩
  · simp [World.setCell, Array.getElem?_modify, hb]
  · rw [Array.getElem?_setIfInBounds]
    by_cases e : j = i
    · subst e
      simp [show j < c.size by omega]
    · rw [if_neg (fun h => e h.symm)]
      show c[j]? = some (if j = i then v else f j)
      rw [if_neg e]
      exact hc j hj
end RowB

/-- Cell j of a list of bytes. -/
def u8At (l : List UInt8) (j : Nat) : Value := .int .u8 ((l.getD j 0).toNat : Int)

/-- The world behind '[]byte(s)'. -/
def bytesIn (e : TypeId) (w : World) (s : ByteArray) : World :=
  w.drew.alloc (.cells (bytesRow s (grownCap w s.size 0 e)) e ((bytesRow s (grownCap w s.size 0 e)).size, (bytesRow s (grownCap w s.size 0 e)).size + 1))
theorem bytesIn_below (e : TypeId) {w0 w : World} (s : ByteArray) (h : Below w0.heap.size w0 w) : Below w0.heap.size w0 (bytesIn e w s) := h.drew.alloc h.size _
theorem bytesIn_row (e : TypeId) (w : World) (s : ByteArray) : RowB (bytesIn e w s) w.heap.size s.size (u8At s.data.toList) := by
  have hs : s.size ≤ (bytesRow s (grownCap w s.size 0 e)).size := by
    unfold bytesRow
    rw [Array.size_append, Array.size_map]
    have : s.data.size = s.size := rfl
    omega
  refine ⟨bytesRow s (grownCap w s.size 0 e), e, ((bytesRow s (grownCap w s.size 0 e)).size, (bytesRow s (grownCap w s.size 0 e)).size + 1), ?_, hs, Or.inr hs, fun i hi => ?_⟩
  · show (w.heap.push _)[w.heap.size]? = _
    simp
  have hi' : i < s.data.size := hi
  unfold bytesRow u8At
  rw [Array.getElem?_append_left (by simpa using hi'), Array.getElem?_map, Array.getElem?_eq_getElem hi', List.getD_eq_getElem?_getD, Array.getElem?_toList, Array.getElem?_eq_getElem hi']
  rfl
theorem conv_in (w : World) (s : ByteArray) : (convert 9 54 (.string s)).run Tryz.prog w = .ok (.slice (some ⟨w.heap.size, 0, none⟩) s.size (grownCap w s.size 0 5)) (bytesIn 5 w s) :=
  run_bytes_of_string (P := Tryz.prog) w 9 54 5 s Tryz.underlying9 Tryz.underlying54 Tryz.underlying5
/-- 'string(b)' of a row that is known. -/
theorem conv_out {w : World} {b n : Nat} {l : List UInt8} (h : RowB w b n (u8At l)) (hl : l.length = n) (cap : Nat) : (convert 54 9 (.slice (some ⟨b, 0, none⟩) n cap)).run Tryz.prog w = .ok (.string ⟨l.toArray⟩) w := by
  have h := run_convert_bytes_back (P := Tryz.prog) w 54 9 5 ⟨b, 0, none⟩ cap l Tryz.underlying54 Tryz.underlying5 Tryz.underlying9
    (fun j hj => by
      have e : (⟨b, 0, none⟩ : Addr).add j = ⟨b, j, none⟩ := by simp [Addr.add]; omega
      rw [e, h.cell (by omega)]
      unfold u8At
      rw [List.getD_eq_getElem?_getD, List.getElem?_eq_getElem hj]
      rfl)
  rw [hl] at h
  exact h
end Go.Proofs.YtedbgimmbapfaaaGreat

/- DiskRefSpoil -/
namespace Go.Proofs.YtedbgimmbapfaaaGreat
open Go.RowKit
set_option linter.unusedVariables false

theorem spoilS_none {D : DiskS} {n : ByteArray} {a : Int} {s : ByteArray} (hf : ¬ findS D.l n < D.l.length) : spoilS D n a s = (4, D) := by
  unfold spoilS
  rw [if_neg hf]
theorem spoilS_arg {D : DiskS} {n : ByteArray} {a : Int} {s : ByteArray} (hf : findS D.l n < D.l.length) (ha : a < 0) : spoilS D n a s = (2, D) := by
  unfold spoilS
  rw [if_pos hf, if_pos ha]
theorem spoilS_go {D : DiskS} {n : ByteArray} {a : Int} {s : ByteArray} (hf : findS D.l n < D.l.length) (ha : ¬ a < 0) : spoilS D n a s = (0, { D with l := setF D.l (findS D.l n) (fun f => { f with data := overS f.data s a.toNat }) }) := by
  unfold spoilS
  rw [if_pos hf, if_neg ha]
theorem spoil_eq (l : List FileS) (k : Nat) (f : FileS) (s : ByteArray) (a : Nat) (h : l[k]? = some f) : setF l k (fun x => { x with data := overS f.data s a }) = setF l k (fun f => { f with data := overS f.data s a }) := by
  apply List.ext_getElem?
  intro j
  rw [setF_get, setF_get]
  by_cases e : j = k
  · subst e; rw [if_pos rfl, if_pos rfl, h]; rfl
  · rw [if_neg e, if_neg e]
theorem overK_length (d s : ByteArray) (a k : Nat) : (overK d s a k).length = d.size := by
  unfold overK
  rw [List.length_mapIdx]
  exact Array.length_toList
theorem overK_at (d s : ByteArray) (a k j : Nat) (hj : j < d.size) : (overK d s a k).getD j 0 = if a ≤ j ∧ j < a + min k s.size then s.data.toList.getD (j - a) 0 else d.data.toList.getD j 0 := by
  have hl : d.data.toList.length = d.size := Array.length_toList
  unfold overK
  rw [List.getD_eq_getElem?_getD, List.getElem?_mapIdx, List.getElem?_eq_getElem (by omega), List.getD_eq_getElem?_getD (l := d.data.toList), List.getElem?_eq_getElem (by omega)]
  rfl
theorem overK_same (d s : ByteArray) (a k : Nat) (hk : k ≤ s.size) (h : s.size ≤ k ∨ d.size ≤ a + k) : overK d s a k = overK d s a s.size := by
  apply List.ext_getElem (by rw [overK_length, overK_length])
  intro j h1 h2
  rw [overK_length] at h1
  have e : ∀ (l : List UInt8) (h : j < l.length), l[j] = l.getD j 0 := fun l h => by rw [List.getD_eq_getElem?_getD, List.getElem?_eq_getElem h]; rfl
  rw [e _ (by rw [overK_length]; exact h1), e _ (by rw [overK_length]; exact h1), overK_at d s a k j h1, overK_at d s a s.size j h1]
  by_cases c : a ≤ j ∧ j < a + min k s.size
  · rw [if_pos c, if_pos (by omega)]
  · rw [if_neg c, if_neg (by omega)]
theorem overK_zero (d s : ByteArray) (a j : Nat) (hj : j < d.size) : u8At d.data.toList j = u8At (overK d s a 0) j := by
  unfold u8At
  rw [overK_at d s a 0 j hj, if_neg (by omega)]
theorem overK_next (d s : ByteArray) (a k j : Nat) (hk : k < s.size) (hj : j < d.size) :
    (if j = a + k then Value.int .u8 ((s.data.toList.getD k 0).toNat : Int) else u8At (overK d s a k) j) = u8At (overK d s a (k + 1)) j := by
  unfold u8At
  rw [overK_at d s a k j hj, overK_at d s a (k + 1) j hj]
  by_cases e : j = a + k
  · subst e
    rw [if_pos rfl, if_pos (by omega), Nat.add_sub_cancel_left]
  · rw [if_neg e]
    by_cases c : a ≤ j ∧ j < a + min k s.size
    · rw [if_pos c, if_pos (by omega)]
    · rw [if_neg c, if_neg (by omega)]
theorem byte_at (s : ByteArray) (k : Nat) (hk : k < s.size) : s[k] = s.data.toList.getD k 0 := by
  have hl : s.data.toList.length = s.size := Array.length_toList
  rw [List.getD_eq_getElem?_getD, List.getElem?_eq_getElem (by omega)]
  rfl

end Go.Proofs.YtedbgimmbapfaaaGreat

/- DiskRefNew -/
namespace Go.Proofs.YtedbgimmbapfaaaGreat
open Go.RowKit
set_option linter.unusedVariables false

def newS (c : Nat) : DiskS := ⟨c, [], 0, false, 0, 0, []⟩
def NewBad (w : World) (e : Ending) (w' : World) : Prop := e = .returned (.tuple #[.pointer none, .int .i64 2]) ∧ w = w'
end Go.Proofs.YtedbgimmbapfaaaGreat

/- IntsIn -/
namespace Go.Proofs.YtedbgimmbapfaaaGreat
open Go.RowKit
set_option linter.unusedVariables false

theorem IntsAt.in_ {w : World} {v : Value} {l : List Int} (h : IntsAt w v l) : IntsIn w v l := by
  rcases h with h | ⟨b, off, cap, cs, fr, h1, h2, h3, h4, h5⟩
  · exact Or.inl h
  · refine Or.inr ⟨b, off, cap, h1, h2, h3, ?_, fun i x hx => ?_⟩
    · rcases Nat.lt_or_ge b w.heap.size with c | c
      · exact c
      · rw [Array.getElem?_eq_none c] at h4; cases h4
    · rw [cell_of_row w b (off + i) cs _ fr h4]
      exact h5 i x hx
theorem IntsIn.touch {F : List Nat} {w w' : World} {v : Value} {l : List Int} (h : IntsIn w v l) (ht : Touch F w w') (hF : ∀ b, v.ownBlock = some b → b ∉ F) : IntsIn w' v l := by
  rcases h with h | ⟨b, off, cap, rfl, h2, h3, h4, h5⟩
  · exact Or.inl h
  · exact Or.inr ⟨b, off, cap, rfl, h2, h3, Nat.lt_of_lt_of_le h4 ht.size, fun i x hx => (ht.cell (p := ⟨b, off + i, none⟩) h4 (hF b rfl)).trans (h5 i x hx)⟩
end Go.Proofs.YtedbgimmbapfaaaGreat

/- A text as a list of bytes in memory, written to: no function of the program. -/
import Derived.Test.YtcfidpjhemjbjaaBase
namespace Go.Proofs.Ytcfidpjhemjbjaa
open Go.RowKit
set_option linter.unusedVariables false

/-- The first n cells of block b are known, and none of them is marked. -/
def RowB (w : World) (b : Nat) (n : Nat) (f : Nat → Value) : Prop :=
  ∃ (c : Array Value) (t : TypeId) (fr : Nat × Nat), w.heap[b]? = some (.cells c t fr) ∧ n ≤ c.size ∧ (fr = (0, 0) ∨ n ≤ fr.1) ∧ ∀ i, i < n → c[i]? = some (f i)
namespace RowB
variable {w : World} {b n : Nat} {f g : Nat → Value}
theorem cell (h : RowB w b n f) {i : Nat} (hi : i < n) : w.cell? ⟨b, i, none⟩ = some (f i) := by
  obtain ⟨c, t, fr, hb, _, _, hc⟩ := h
  simp [World.cell?, hb, hc i hi]
theorem frozen (h : RowB w b n f) {i : Nat} (hi : i < n) : w.frozen? ⟨b, i, none⟩ = false := by
  obtain ⟨c, t, ⟨lo, hi'⟩, hb, _, hf, _⟩ := h
  rcases hf with hf | hf
  · cases hf
    simp [World.frozen?, hb]
  · have hf' : n ≤ lo := hf
    simp [World.frozen?, hb]
    omega
theorem lt (h : RowB w b n f) : b < w.heap.size := by
  obtain ⟨c, t, fr, hb, _⟩ := h
  obtain ⟨hlt, _⟩ := Array.getElem?_eq_some_iff.1 hb
  exact hlt
theorem congr (h : RowB w b n f) (e : ∀ i, i < n → f i = g i) : RowB w b n g := by
  obtain ⟨c, t, fr, hb, hn, hf, hc⟩ := h
  exact ⟨c, t, fr, hb, hn, hf, fun i hi => by rw [hc i hi, e i hi]⟩
theorem of_block {w' : World} (h : RowB w b n f) (e : w'.heap[b]? = w.heap[b]?) : RowB w' b n f := by
  obtain ⟨c, t, fr, hb, hn, hf, hc⟩ := h
  exact ⟨c, t, fr, e.trans hb, hn, hf, hc⟩
theorem below {w' : World} (h : RowB w b n f) (hb : Below w.heap.size w w') : RowB w' b n f := h.of_block (hb.block _ h.lt)
theorem drew (h : RowB w b n f) : RowB w.drew b n f := h
theorem set (h : RowB w b n f) (i : Nat) (v : Value) : RowB (w.setCell ⟨b, i, none⟩ v) b n (fun j => if j = i then v else f j) := by
  obtain ⟨c, t, fr, hb, hn, hf, hc⟩ := h
  refine ⟨c.setIfInBounds i v, t, fr, ?_, by simpa using hn, hf, fun j hj => ?_⟩
  · simp [World.setCell, Array.getElem?_modify, hb]
  · rw [Array.getElem?_setIfInBounds]
    by_cases e : j = i
    · subst e
      simp [show j < c.size by omega]
    · rw [if_neg (fun h => e h.symm)]
      show c[j]? = some (if j = i then v else f j)
      rw [if_neg e]
      exact hc j hj
end RowB

/-- Cell j of a list of bytes. -/
def u8At (l : List UInt8) (j : Nat) : Value := .int .u8 ((l.getD j 0).toNat : Int)

/-- The world behind '[]byte(s)'. -/
def bytesIn (e : TypeId) (w : World) (s : ByteArray) : World :=
  w.drew.alloc (.cells (bytesRow s (grownCap w s.size 0 e)) e ((bytesRow s (grownCap w s.size 0 e)).size, (bytesRow s (grownCap w s.size 0 e)).size + 1))
theorem bytesIn_below (e : TypeId) {w0 w : World} (s : ByteArray) (h : Below w0.heap.size w0 w) : Below w0.heap.size w0 (bytesIn e w s) := h.drew.alloc h.size _
theorem bytesIn_row (e : TypeId) (w : World) (s : ByteArray) : RowB (bytesIn e w s) w.heap.size s.size (u8At s.data.toList) := by
  have hs : s.size ≤ (bytesRow s (grownCap w s.size 0 e)).size := by
    unfold bytesRow
    rw [Array.size_append, Array.size_map]
    have : s.data.size = s.size := rfl
    omega
  refine ⟨bytesRow s (grownCap w s.size 0 e), e, ((bytesRow s (grownCap w s.size 0 e)).size, (bytesRow s (grownCap w s.size 0 e)).size + 1), ?_, hs, Or.inr hs, fun i hi => ?_⟩
  · show (w.heap.push _)[w.heap.size]? = _
    simp
  have hi' : i < s.data.size := hi
  unfold bytesRow u8At
  rw [Array.getElem?_append_left (by simpa using hi'), Array.getElem?_map, Array.getElem?_eq_getElem hi', List.getD_eq_getElem?_getD, Array.getElem?_toList, Array.getElem?_eq_getElem hi']
  rfl
theorem conv_in (w : World) (s : ByteArray) : (convert 9 39 (.string s)).run Try.prog w = .ok (.slice (some ⟨w.heap.size, 0, none⟩) s.size (grownCap w s.size 0 5)) (bytesIn 5 w s) :=
  run_bytes_of_string (P := Try.prog) w 9 39 5 s Try.underlying9 Try.underlying39 Try.underlying5
/-- 'string(b)' of a row that is known. -/
theorem conv_out {w : World} {b n : Nat} {l : List UInt8} (h : RowB w b n (u8At l)) (hl : l.length = n) (cap : Nat) : (convert 39 9 (.slice (some ⟨b, 0, none⟩) n cap)).run Try.prog w = .ok (.string ⟨l.toArray⟩) w := by
  have h := run_convert_bytes_back (P := Try.prog) w 39 9 5 ⟨b, 0, none⟩ cap l Try.underlying39 Try.underlying5 Try.underlying9
    (fun j hj => by
      have e : (⟨b, 0, none⟩ : Addr).add j = ⟨b, j, none⟩ := by simp [Addr.add]; omega
      rw [e, h.cell (by omega)]
      unfold u8At
      rw [List.getD_eq_getElem?_getD, List.getElem?_eq_getElem hj]
      rfl)
  rw [hl] at h
  exact h
end Go.Proofs.Ytcfidpjhemjbjaa

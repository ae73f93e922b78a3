/- Lists of words, and of numbers with a point, in memory; 'floats' of the statements of layer 4. -/
import Derived.Test.YtfnppmiapjhjlaaWeightsRef
namespace Go.Proofs.Ytfnppmiapjhjlaa
open Go.RowKit
set_option linter.unusedVariables false

/-- A slice value has these elements. -/
def RowOf (mk : Nat → Value) (w : World) (v : Value) (l : List Nat) : Prop :=
  (l = [] ∧ ∃ a cap, v = .slice a 0 cap) ∨
  (0 < l.length ∧ ∃ b off cap, v = .slice (some ⟨b, off, none⟩) l.length cap ∧ l.length ≤ cap ∧ b < w.heap.size ∧ ∀ i, i < l.length → w.cell? ⟨b, off + i, none⟩ = some (mk (l.getD i 0)))
def f64V (n : Nat) : Value := .float .f64 n
def u64V (n : Nat) : Value := .int .u64 (n : Int)
theorem RowOf.below {mk : Nat → Value} {w w' : World} {v : Value} {l : List Nat} {B : Nat} (h : RowOf mk w v l) (hb : Below B w w') (hB : w.heap.size ≤ B) : RowOf mk w' v l := by
  rcases h with h | ⟨h0, b, off, cap, hv, hc, hlt, hcell⟩
  · exact Or.inl h
  · exact Or.inr ⟨h0, b, off, cap, hv, hc, Nat.lt_of_lt_of_le hlt hb.size, fun i hi => (hb.cell (p := ⟨b, off + i, none⟩) (Nat.lt_of_lt_of_le hlt hB)).trans (hcell i hi)⟩
theorem RowOf.of_owns {w : World} {base : Nat} {e : TypeId} {v : Value} {l : List Nat} (mk : Nat → Value) (h : w.ownsRow base e 1 v l.length (l.map mk)) : RowOf mk w v l := by
  have h' := h
  rcases h.2 with ⟨hv, h0⟩ | ⟨g, cap, cur, hv, hg, hh, hn, hm, hsz, ht⟩
  · exact Or.inl ⟨List.length_eq_zero_iff.1 h0, none, 0, hv⟩
  · by_cases hl : l = []
    · subst hl
      exact Or.inl ⟨rfl, _, _, hv⟩
    · refine Or.inr ⟨List.length_pos_iff.2 hl, g, 0, cap, hv, hn, ?_, fun i hi => ?_⟩
      · obtain ⟨hlt, _⟩ := Array.getElem?_eq_some_iff.1 hh
        exact hlt
      · rw [hv] at h'
        rw [Nat.zero_add, h'.cellAt i (by omega), List.getElem?_map, List.getD_eq_getElem?_getD, List.getElem?_eq_getElem hi]
        rfl

theorem owns_block {w : World} {base : Nat} {e : TypeId} {v : Value} {n : Nat} {xs : List Value} (h : w.ownsRow base e 1 v n xs) : ∀ k, v.ownBlock = some k → base ≤ k := by
  intro k hk
  rcases h.2 with ⟨rfl, _⟩ | ⟨g, cap, cur, rfl, hg, _⟩
  · cases hk
  · cases hk; exact hg

theorem owns_below {w w' : World} {base B : Nat} {e : TypeId} {v : Value} {n : Nat} {xs : List Value} (h : w.ownsRow base e 1 v n xs) (hb : Below B w w') (hB : w.heap.size ≤ B) : w'.ownsRow base e 1 v n xs := by
  refine ⟨h.1, ?_⟩
  rcases h.2 with h0 | ⟨g, cap, cur, hv, hg, hh, r⟩
  · exact Or.inl h0
  · obtain ⟨hlt, _⟩ := Array.getElem?_eq_some_iff.1 hh
    exact Or.inr ⟨g, cap, cur, hv, hg, (hb.block g (Nat.lt_of_lt_of_le hlt hB)).trans hh, r⟩
/-- A part of a row, from a place on, and up to it. -/
theorem RowOf.drop {mk : Nat → Value} {w : World} {b off cap : Nat} {l : List Nat} (hcap : l.length ≤ cap) (hb : b < w.heap.size) (hc : ∀ i, i < l.length → w.cell? ⟨b, off + i, none⟩ = some (mk (l.getD i 0))) (k : Nat) (hk : k < l.length) (cap' : Nat) (hcap' : l.length - k ≤ cap') :
    RowOf mk w (.slice (some ⟨b, off + k, none⟩) (l.length - k) cap') (l.drop k) := by
  refine Or.inr ⟨by rw [List.length_drop]; omega, b, off + k, cap', by rw [List.length_drop], by rw [List.length_drop]; exact hcap', hb, fun i hi => ?_⟩
  rw [List.length_drop] at hi
  have e : (l.drop k).getD i 0 = l.getD (k + i) 0 := by rw [List.getD_eq_getElem?_getD, List.getD_eq_getElem?_getD, List.getElem?_drop]
  rw [e, Nat.add_assoc]
  exact hc (k + i) (by omega)
theorem RowOf.take {mk : Nat → Value} {w : World} {b off cap : Nat} {l : List Nat} (hcap : l.length ≤ cap) (hb : b < w.heap.size) (hc : ∀ i, i < l.length → w.cell? ⟨b, off + i, none⟩ = some (mk (l.getD i 0))) (k : Nat) (hk : k < l.length) (cap' : Nat) (hcap' : k ≤ cap') :
    RowOf mk w (.slice (some ⟨b, off, none⟩) k cap') (l.take k) := by
  have hl : (l.take k).length = k := by rw [List.length_take]; omega
  by_cases h0 : k = 0
  · subst h0
    exact Or.inl ⟨rfl, _, _, rfl⟩
  · refine Or.inr ⟨by omega, b, off, cap', by rw [hl], by omega, hb, fun i hi => ?_⟩
    have e : (l.take k).getD i 0 = l.getD i 0 := by rw [List.getD_eq_getElem?_getD, List.getD_eq_getElem?_getD, List.getElem?_take, if_pos (by omega)]
    rw [e]
    exact hc i (by omega)

theorem words_at {l : List Nat} (h : Words l) (k : Nat) : l.getD k 0 < 18446744073709551616 := by
  by_cases hk : k < l.length
  · rw [List.getD_eq_getElem?_getD, List.getElem?_eq_getElem hk]; exact h _ (List.getElem_mem hk)
  · rw [List.getD_eq_getElem?_getD, List.getElem?_eq_none (by omega)]; exact (by decide : (0 : Nat) < 18446744073709551616)
theorem take_next (l : List Nat) (k : Nat) (h : k < l.length) : l.take (k + 1) = l.take k ++ [l.getD k 0] := by
  rw [List.take_add_one, List.getElem?_eq_getElem h, List.getD_eq_getElem?_getD, List.getElem?_eq_getElem h]
  rfl

end Go.Proofs.Ytfnppmiapjhjlaa

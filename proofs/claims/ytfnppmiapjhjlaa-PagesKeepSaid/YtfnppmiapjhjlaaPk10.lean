/- FloatFrom, WeightsRef, Floats, U64s, BlRef -/
import Derived.Test.YtfnppmiapjhjlaaPk01
import Derived.Laws.Externs
import Derived.Test.YtfnppmiapjhjlaaPk09
import Derived.Laws.Bits64
import Derived.WideShapes
import Derived.Carry
import Derived.ProofKit
import Derived.Test.YtfnppmiapjhjlaaPk04
import Derived.Test.YtfnppmiapjhjlaaPk06
/- FloatFrom -/
namespace Go.Proofs.Ytfnppmiapjhjlaa
open Go.RowKit
set_option linter.unusedVariables false

theorem ret_w64 {a b : Int} (h : a = b) : Ending.returned (.int .u64 a) = .returned (.int .u64 b) := by rw [h]
theorem ret_f64 {a b : Nat} (h : a = b) : Ending.returned (.float .f64 a) = .returned (.float .f64 b) := by rw [h]

/-- A test on a word, in the walk's words. -/
theorem ge_yes {b c : Nat} (h : c ≤ b) : decide ((c : Int) ≤ (b : Int)) = true := decide_eq_true (by omega)
theorem ge_no {b c : Nat} (h : ¬ c ≤ b) : decide ((c : Int) ≤ (b : Int)) = false := decide_eq_false (by omega)
theorem lt_yes {b c : Nat} (h : b < c) : decide ((b : Int) < (c : Int)) = true := decide_eq_true (by omega)
theorem lt_no {b c : Nat} (h : ¬ b < c) : decide ((b : Int) < (c : Int)) = false := decide_eq_false (by omega)

end Go.Proofs.Ytfnppmiapjhjlaa

/- WeightsRef -/
namespace Go.Proofs.Ytfnppmiapjhjlaa
open Go.RowKit
set_option linter.unusedVariables false

end Go.Proofs.Ytfnppmiapjhjlaa

/- Floats -/
namespace Go.Proofs.Ytfnppmiapjhjlaa
open Go.RowKit
set_option linter.unusedVariables false

/-- A slice value has these elements. -/
def RowOf (mk : Nat → Value) (w : World) (v : Value) (l : List Nat) : Prop :=
  (l = [] ∧ ∃ a cap, v = .slice a 0 cap) ∨
  (0 < l.length ∧ ∃ b off cap, v = .slice (some ⟨b, off, none⟩) l.length cap ∧ l.length ≤ cap ∧ b < w.heap.size ∧ ∀ i, i < l.length → w.cell? ⟨b, off + i, none⟩ = some (mk (l.getD i 0)))
def f64V (n : Nat) : Value := .float .f64 n
def u64V (n : Nat) : Value := .int .u64 (n : Int)
theorem RowOf.below {mk : Nat → Value} {w w' : World} {v : Value} {l : List Nat} {B : Nat} (h : RowOf mk w v l) (hb : Below B w w') (hB : w.heap.size ≤ B) : RowOf mk w' v l := by
  rcases h with h | ⟨h0, b, off, cap, hv, hc, hlt, hcell⟩
  · exact Or.inl h
  · exact Or.inr ⟨h0, b, off, cap, hv, hc, Nat.lt_of_lt_of_le hlt hb.size, fun i hi => (hb.cell (p := ⟨b, off + i, none⟩) (Nat.lt_of_lt_of_le hlt hB)).trans (hcell i hi)⟩
theorem RowOf.of_owns {w : World} {base : Nat} {e : TypeId} {v : Value} {l : List Nat} (mk : Nat → Value) (h : w.ownsRow base e 1 v l.length (l.map mk)) : RowOf mk w v l := by
  have h' := h
  rcases h.2 with ⟨hv, h0⟩ | ⟨g, cap, cur, hv, hg, hh, hn, hm, hsz, ht⟩
  · exact Or.inl ⟨List.length_eq_zero_iff.1 h0, none, 0, hv⟩
  · by_cases hl : l = []
    · subst hl
      exact Or.inl ⟨rfl, _, _, hv⟩
    · refine Or.inr ⟨List.length_pos_iff.2 hl, g, 0, cap, hv, hn, ?_, fun i hi => ?_⟩
      · obtain ⟨hlt, _⟩ := Array.getElem?_eq_some_iff.1 hh
        exact hlt
      · rw [hv] at h'
        rw [Nat.zero_add, h'.cellAt i (by omega), List.getElem?_map, List.getD_eq_getElem?_getD, List.getElem?_eq_getElem hi]
        rfl

theorem owns_block {w : World} {base : Nat} {e : TypeId} {v : Value} {n : Nat} {xs : List Value} (h : w.ownsRow base e 1 v n xs) : ∀ k, v.ownBlock = some k → base ≤ k := by
  intro k hk
  rcases h.2 with ⟨rfl, _⟩ | ⟨g, cap, cur, rfl, hg, _⟩
  · cases hk
  · cases hk; exact hg

theorem owns_below {w w' : World} {base B : Nat} {e : TypeId} {v : Value} {n : Nat} {xs : List Value} (h : w.ownsRow base e 1 v n xs) (hb : Below B w w') (hB : w.heap.size ≤ B) : w'.ownsRow base e 1 v n xs := by
  refine ⟨h.1, ?_⟩
  rcases h.2 with h0 | ⟨g, cap, cur, hv, hg, hh, r⟩
  · exact Or.inl h0
  · obtain ⟨hlt, _⟩ := Array.getElem?_eq_some_iff.1 hh
    exact Or.inr ⟨g, cap, cur, hv, hg, (hb.block g (Nat.lt_of_lt_of_le hlt hB)).trans hh, r⟩
/-- A part of a row, from a place on, and up to it. -/
theorem RowOf.drop {mk : Nat → Value} {w : World} {b off cap : Nat} {l : List Nat} (hcap : l.length ≤ cap) (hb : b < w.heap.size) (hc : ∀ i, i < l.length → w.cell? ⟨b, off + i, none⟩ = some (mk (l.getD i 0))) (k : Nat) (hk : k < l.length) (cap' : Nat) (hcap' : l.length - k ≤ cap') :
    RowOf mk w (.slice (some ⟨b, off + k, none⟩) (l.length - k) cap') (l.drop k) := by
  refine Or.inr ⟨by rw [List.length_drop]; omega, b, off + k, cap', by rw [List.length_drop], by rw [List.length_drop]; exact hcap', hb, fun i hi => ?_⟩
  rw [List.length_drop] at hi
  have e : (l.drop k).getD i 0 = l.getD (k + i) 0 := by rw [List.getD_eq_getElem?_getD, List.getD_eq_getElem?_getD, List.getElem?_drop]
  rw [e, Nat.add_assoc]
  exact hc (k + i) (by omega)
theorem RowOf.take {mk : Nat → Value} {w : World} {b off cap : Nat} {l : List Nat} (hcap : l.length ≤ cap) (hb : b < w.heap.size) (hc : ∀ i, i < l.length → w.cell? ⟨b, off + i, none⟩ = some (mk (l.getD i 0))) (k : Nat) (hk : k < l.length) (cap' : Nat) (hcap' : k ≤ cap') :
    RowOf mk w (.slice (some ⟨b, off, none⟩) k cap') (l.take k) := by
  have hl : (l.take k).length = k := by rw [List.length_take]; omega
  by_cases h0 : k = 0
  · subst h0
    exact Or.inl ⟨rfl, _, _, rfl⟩
  · refine Or.inr ⟨by omega, b, off, cap', by rw [hl], by omega, hb, fun i hi => ?_⟩
    have e : (l.take k).getD i 0 = l.getD i 0 := by rw [List.getD_eq_getElem?_getD, List.getD_eq_getElem?_getD, List.getElem?_take, if_pos (by omega)]
    rw [e]
    exact hc i (by omega)

theorem words_at {l : List Nat} (h : Words l) (k : Nat) : l.getD k 0 < 18446744073709551616 := by
  by_cases hk : k < l.length
  · rw [List.getD_eq_getElem?_getD, List.getElem?_eq_getElem hk]; exact h _ (List.getElem_mem hk)
  · rw [List.getD_eq_getElem?_getD, List.getElem?_eq_none (by omega)]; exact (by decide : (0 : Nat) < 18446744073709551616)
theorem take_next (l : List Nat) (k : Nat) (h : k < l.length) : l.take (k + 1) = l.take k ++ [l.getD k 0] := by
  rw [List.take_add_one, List.getElem?_eq_getElem h, List.getD_eq_getElem?_getD, List.getElem?_eq_getElem h]
  rfl

end Go.Proofs.Ytfnppmiapjhjlaa

/- U64s -/
namespace Go.Proofs.Ytfnppmiapjhjlaa
open Go.ChangeShapes Go.WideShapes Go.ChangeAt Go.RowKit
set_option linter.unusedVariables false

theorem u64s_laidOut : laidOutB Try.prog = true := by kernel_rfl
theorem cells_u64 : Try.prog.cellsOf 31 = 1 := by kernel_rfl
theorem u64s_in {H : Type} {enc : TypeId × Value → H} {W : World} {v : Value} {d : DataW H} {p : List MemPlace} (hval : ∃ a len cap, v = .slice a len cap)
    (hd : DataW.Trod enc Try.prog W 0 (fun _ => true) true 25 v d p) (hlt : ∀ x ∈ p, x.block < W.heap.size) : ∃ l : List Nat, RowOf u64V W v l ∧ Words l := by
  obtain ⟨a0, len, cap, rfl⟩ := hval
  obtain ⟨fuel, hf⟩ := hd
  rcases open_ints Try.underlying25 Try.underlying31 cells_u64 hf with ⟨hcs, hx⟩ | ⟨a, len', cap', zs, hcs, _, hl, hm, hz, hx, hcell, hwz⟩
  · simp [Value.cells] at hcs
    obtain ⟨rfl, rfl, rfl⟩ := hcs
    exact ⟨[], Or.inl ⟨rfl, _, _, rfl⟩, fun x hx => by cases hx⟩
  · simp [Value.cells] at hcs
    obtain ⟨rfl, rfl, rfl⟩ := hcs
    simp only [Prod.mk.injEq] at hx
    obtain ⟨rfl, rfl⟩ := hx
    simp only [if_true] at hz
    by_cases hl0 : len = 0
    · subst hl0
      exact ⟨[], Or.inl ⟨rfl, _, _, rfl⟩, fun x hx => by cases hx⟩
    · obtain ⟨b, off, spot⟩ := a
      have hspot : spot = none := by simpa [Addr.add] using World.cell?_spot (hcell 0 (by omega))
      subst hspot
      have hbW : b < W.heap.size := hlt (.cell b off) (MemPlace.mem_row.2 ⟨0, by omega, by simp⟩)
      have hn : ∀ z ∈ zs, ∃ n : Nat, z = n ∧ n < 18446744073709551616 := fun z hz => u64_nat (hwz z hz)
      have hlen : ((zs.take len).map Int.toNat).length = len := by rw [List.length_map, List.length_take]; omega
      refine ⟨(zs.take len).map Int.toNat, Or.inr ⟨by omega, b, off, cap, by rw [hlen], by omega, hbW, fun i hi => ?_⟩, ?_⟩
      · have hi' : i < zs.length := by omega
        rw [← add_plain, hcell i hi']
        have e1 : zs.getD i 0 = zs[i] := by rw [List.getD_eq_getElem?_getD, List.getElem?_eq_getElem hi']; rfl
        have e2 : ((zs.take len).map Int.toNat).getD i 0 = zs[i].toNat := by
          rw [List.getD_eq_getElem?_getD, List.getElem?_map, List.getElem?_take, if_pos (by omega), List.getElem?_eq_getElem hi']
          rfl
        rw [e1, e2]
        obtain ⟨n, en, _⟩ := hn zs[i] (List.getElem_mem hi')
        unfold u64V
        rw [en]
        rfl
      · intro x hx
        obtain ⟨z, hz1, rfl⟩ := List.mem_map.1 hx
        obtain ⟨n, rfl, hn2⟩ := hn z (List.mem_of_mem_take hz1)
        exact hn2
/-- What is read of it behind the call. -/
theorem u64s_out {H : Type} {enc : TypeId × Value → H} {W W' : World} {v : Value} {d : DataW H} {p : List MemPlace}
    (hd : DataW.Trod enc Try.prog W 0 (fun _ => true) true 25 v d p) (hlt : ∀ x ∈ p, x.block < W.heap.size) (hb : Below W.heap.size W W') :
    DataW.Trod enc Try.prog W' 0 (fun b => decide (b < W.heap.size)) true 25 v d p :=
  Below.trod u64s_laidOut (by kernel_rfl) (of_decide_eq_true (by kernel_rfl)) hd hb hlt
end Go.Proofs.Ytfnppmiapjhjlaa

/- BlRef -/
namespace Go.Proofs.Ytfnppmiapjhjlaa
open Go.RowKit
set_option linter.unusedVariables false

/-- What is asked up to a probe. -/
theorem asksTo_mem {g : Nat} {p b : Int} {i : Nat} (hi : i < nps p) : prb g (i : Nat) b ∈ asksL g p b := asksL_mem.2 ⟨i, hi, rfl⟩

theorem bit_low (c k : Nat) : (((c : Int) / 2 ^ k).tmod 2 == 0) = !c.testBit k := by
  have e : (c : Int) / 2 ^ k = ((c / 2 ^ k : Nat) : Int) := by rw [Int.natCast_ediv, Int.natCast_pow]; rfl
  have h := bit_shift (c := c) (k := k)
  rw [e]
  have e2 : ((c / 2 ^ k : Nat) : Int).tmod 2 = ((c / 2 ^ k % 2 : Nat) : Int) := (Int.ofNat_tmod _ 2).symm
  rw [e2]
  have hz2 := Nat.mod_lt (c / 2 ^ k) (by decide : 0 < 2)
  generalize c / 2 ^ k % 2 = z at *
  cases hb : c.testBit k with
  | true =>
    rw [hb] at h
    have := h.2 rfl
    subst this
    rfl
  | false =>
    rw [hb] at h
    exact beq_iff_eq.2 (by
      have hz1 : ¬ z = 1 := fun e => by have := h.1 e; cases this
      have hz : z = 0 := by omega
      rw [hz]; rfl)

end Go.Proofs.Ytfnppmiapjhjlaa

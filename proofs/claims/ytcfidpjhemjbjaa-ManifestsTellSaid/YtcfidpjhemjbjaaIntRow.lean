/- Lists of numbers in memory: as they came in, rows of a call's own, parts, append. -/
import Derived.Test.YtcfidpjhemjbjaaIntsDef
import Derived.Test.YtcfidpjhemjbjaaSrc
import Derived.Deep.Slices
import Derived.WideShapes
import Derived.Carry
import Derived.ProofKit
import Derived.OpenShut
namespace Go.Proofs.Ytcfidpjhemjbjaa
open Go.ChangeShapes Go.WideShapes Go.ChangeAt Go.RowKit Go.Deep
set_option linter.unusedVariables false
set_option maxRecDepth 100000

def intV (x : Int) : Value := .int .i64 x
theorem ints_laidOut : laidOutB Try.prog = true := by kernel_rfl
theorem cells_int : Try.prog.cellsOf 3 = 1 := by kernel_rfl
/-- An integer of 64 bits. -/
def InI64 (x : Int) : Prop := -9223372036854775808 ≤ x ∧ x ≤ 9223372036854775807
theorem ints_in {H : Type} {enc : TypeId × Value → H} {W : World} {v : Value} {d : DataW H} {p : List MemPlace} (hval : ∃ a len cap, v = .slice a len cap)
    (hd : DataW.Trod enc Try.prog W 0 (fun _ => true) true 41 v d p) (hlt : ∀ x ∈ p, x.block < W.heap.size) : ∃ l : List Int, IntsIn W v l ∧ ∀ x ∈ l, InI64 x := by
  obtain ⟨a0, len, cap, rfl⟩ := hval
  obtain ⟨fuel, hf⟩ := hd
  rcases open_ints Try.underlying41 Try.underlying3 cells_int hf with ⟨hcs, hx⟩ | ⟨a, len', cap', zs, hcs, _, hl, hm, hz, hx, hcell, hwz⟩
  · simp [Value.cells] at hcs
    obtain ⟨rfl, rfl, rfl⟩ := hcs
    exact ⟨[], Or.inl ⟨rfl, _, _, rfl⟩, fun x hx => by cases hx⟩
  · simp [Value.cells] at hcs
    obtain ⟨rfl, rfl, rfl⟩ := hcs
    simp only [Prod.mk.injEq] at hx
    obtain ⟨rfl, rfl⟩ := hx
    simp only [if_true] at hz
    by_cases hl0 : len = 0
    · subst hl0
      exact ⟨[], Or.inl ⟨rfl, _, _, rfl⟩, fun x hx => by cases hx⟩
    · obtain ⟨b, off, spot⟩ := a
      have hspot : spot = none := by simpa [Addr.add] using World.cell?_spot (hcell 0 (by omega))
      subst hspot
      have hbW : b < W.heap.size := hlt (.cell b off) (MemPlace.mem_row.2 ⟨0, by omega, by simp⟩)
      have hlen : (zs.take len).length = len := by rw [List.length_take]; omega
      refine ⟨zs.take len, Or.inr ⟨b, off, cap, by rw [hlen], by omega, hm, hbW, fun i x hx => ?_⟩, fun x hx => bounds_i64 (hwz x (List.mem_of_mem_take hx))⟩
      rw [List.getElem?_take] at hx
      by_cases hi : i < len
      · rw [if_pos hi] at hx
        have hi' : i < zs.length := by omega
        rw [List.getElem?_eq_getElem hi'] at hx
        obtain rfl : zs[i] = x := by simpa using hx
        have e1 : zs.getD i 0 = zs[i] := by rw [List.getD_eq_getElem?_getD, List.getElem?_eq_getElem hi']; rfl
        have ea : (⟨b, off, none⟩ : Addr).add i = ⟨b, off + i, none⟩ := by simp [Addr.add]
        have h := hcell i hi'
        rw [ea, e1] at h
        exact h
      · rw [if_neg hi] at hx
        cases hx
theorem IntsIn.below {w w' : World} {v : Value} {l : List Int} {B : Nat} (h : IntsIn w v l) (hb : Below B w w') (hB : w.heap.size ≤ B) : IntsIn w' v l := by
  rcases h with h | ⟨b, off, cap, rfl, h2, h3, h4, h5⟩
  · exact Or.inl h
  · exact Or.inr ⟨b, off, cap, rfl, h2, h3, Nat.lt_of_lt_of_le h4 hb.size, fun i x hx => (hb.cell (p := ⟨b, off + i, none⟩) (Nat.lt_of_lt_of_le h4 hB)).trans (h5 i x hx)⟩
theorem IntsIn.form {w : World} {v : Value} {l : List Int} (h : IntsIn w v l) : ∃ A off cap, v = .slice A l.length cap ∧ l.length ≤ maxLen ∧
    ∀ i x, l[i]? = some x → ∃ b, A = some ⟨b, off, none⟩ ∧ b < w.heap.size ∧ w.cell? ⟨b, off + i, none⟩ = some (.int .i64 x) := by
  rcases h with ⟨rfl, a, c, rfl⟩ | ⟨b, off, cap, rfl, h2, h3, h4, h5⟩
  · exact ⟨a, 0, c, rfl, Nat.zero_le _, fun i x h => by simp at h⟩
  · exact ⟨some ⟨b, off, none⟩, off, cap, rfl, by omega, fun i x hx => ⟨b, rfl, h4, h5 i x hx⟩⟩
theorem intV_one {l : List Int} : ∀ u ∈ l.map intV, u.oneCell' = true := by
  intro u hu
  obtain ⟨x, -, rfl⟩ := List.mem_map.1 hu
  rfl
/-- A row of a call's own. -/
abbrev IRow (w : World) (base : Nat) (v : Value) (l : List Int) : Prop := w.ownsRow base 3 1 v l.length (l.map intV)
theorem IRow.nil (w : World) (base : Nat) : IRow w base (.slice none 0 0) [] := World.ownsRow_nil _ _ _ _
theorem IRow.in_ {w : World} {base : Nat} {v : Value} {l : List Int} (h : IRow w base v l) : IntsIn w v l := by
  have h' := h
  rcases h.2 with ⟨hv, h0⟩ | ⟨g, cap, cur, hv, hg, hh, hn, hm, hsz, ht⟩
  · exact Or.inl ⟨List.length_eq_zero_iff.1 h0, none, 0, hv⟩
  · refine Or.inr ⟨g, 0, cap, hv, hn, hm, (Array.getElem?_eq_some_iff.1 hh).1, fun i x hx => ?_⟩
    have hi : i < l.length := (List.getElem?_eq_some_iff.1 hx).1
    rw [hv] at h'
    rw [Nat.zero_add]
    refine (h'.cellAt i (by omega)).trans ?_
    show (l.map intV)[i]? = _
    rw [List.getElem?_map, hx]
    rfl
theorem IRow.below {w w' : World} {base B : Nat} {v : Value} {l : List Int} (h : IRow w base v l) (hb : Below B w w') (hB : w.heap.size ≤ B) : IRow w' base v l := by
  refine ⟨h.1, ?_⟩
  rcases h.2 with h0 | ⟨g, cap, cur, hv, hg, hh, r⟩
  · exact Or.inl h0
  · obtain ⟨hlt, _⟩ := Array.getElem?_eq_some_iff.1 hh
    exact Or.inr ⟨g, cap, cur, hv, hg, (hb.block g (Nat.lt_of_lt_of_le hlt hB)).trans hh, r⟩
theorem IRow.block {w : World} {base : Nat} {v : Value} {l : List Int} (h : IRow w base v l) : ∀ k, v.ownBlock = some k → base ≤ k ∧ k < w.heap.size := fun k hk => h.lt k hk
theorem IRow.down {w : World} {base base' : Nat} {v : Value} {l : List Int} (h : IRow w base v l) (hb : base' ≤ base) : IRow w base' v l := by
  refine ⟨h.1, ?_⟩
  rcases h.2 with h0 | ⟨g, cap, cur, hv, hg, r⟩
  · exact Or.inl h0
  · exact Or.inr ⟨g, cap, cur, hv, Nat.le_trans hb hg, r⟩
theorem info_int : (Try.prog.info? 3).map (fun i => (i.zero, i.size, i.bytes)) = some (some (.int .i64 0), 1, 8) := by kernel_rfl
theorem IntsIn.src {w : World} {v : Value} {l : List Int} (h : IntsIn w v l) : SrcAt w 1 v l.length (l.map intV) := by
  refine ⟨by rw [List.length_map, Nat.mul_one], ?_⟩
  rcases h with ⟨rfl, a, c, rfl⟩ | ⟨b, off, cap, rfl, h2, h3, h4, h5⟩
  · cases a with
    | none => exact Or.inl ⟨c, rfl, rfl⟩
    | some a => exact Or.inr ⟨a, c, rfl, fun j u hu => by cases hu⟩
  · refine Or.inr ⟨⟨b, off, none⟩, cap, rfl, fun j u hu => ?_⟩
    rw [List.getElem?_map] at hu
    obtain ⟨x, hx, rfl⟩ := Option.map_eq_some_iff.1 hu
    have ea : (⟨b, off, none⟩ : Addr).add j = ⟨b, off + j, none⟩ := by unfold Addr.add; split <;> simp_all
    rw [ea]
    exact h5 j x hx
theorem int_one (w : World) (x : Int) : IntsIn (w.alloc (.cells #[.int .i64 x] 3)) (.slice (some ⟨w.heap.size, 0, none⟩) 1 1) [x] := by
  refine Or.inr ⟨w.heap.size, 0, 1, rfl, Nat.le_refl _, by unfold maxLen; omega, by simp, fun i y hy => ?_⟩
  match i, hy with
  | 0, hy =>
    obtain rfl : x = y := by simpa using hy
    simp
/-- append to a row of a call's own. -/
theorem ints_append {w : World} {base : Nat} {vs vx : Value} {l m : List Int} (hown : IRow w base vs l) (hsrc : IntsIn w vx m) (hl : l.length + m.length ≤ 1000000) (hb : base ≤ w.heap.size) (ty : TypeId) :
    ∃ A c w', (Builtin.append_ #[41, 41] ty #[vs, vx]).run Try.prog w = .ok (.slice A (l.length + m.length) c) w' ∧ IRow w' base (.slice A (l.length + m.length) c) (l ++ m) ∧ w.grownBy w' vs.ownBlock ∧ ((Value.slice A (l.length + m.length) c).ownBlock = vs.ownBlock ∨ (Value.slice A (l.length + m.length) c).ownBlock = some w.heap.size) := by
  obtain ⟨i0, hi, hz0, hz1, hz2⟩ := info_parts info_int
  obtain ⟨v', w', e1, e2, e3, e4⟩ := run_append_src (P := Try.prog) w base 41 3 i0 _ 1 8 ty Try.underlying41 hi hz0 hz1 hz2 rfl (by decide) vs l.length (l.map intV) hown vx m.length (m.map intV) hsrc.src intV_one (by unfold maxLen; omega) (by omega) hb
  obtain ⟨A, c, rfl, -, -, -⟩ := own_form e2
  refine ⟨A, c, w', e1, ?_, e3, e4⟩
  unfold IRow
  rw [List.map_append, List.length_append]
  exact e2
theorem igrown_below {B : Nat} {w w' : World} {v : Value} (h : w.grownBy w' v.ownBlock) (hB : B ≤ w.heap.size) (hv : ∀ k, v.ownBlock = some k → B ≤ k) : Below B w w' := ⟨h.os, h.tape, h.output, h.size, fun k hk => h.block k (by omega) (fun e => by have := hv k e.symm; omega)⟩
theorem isliced_nil (a : Option Addr) (c : Nat) : ∃ A c', sliced a 0 0 c 1 = .slice A 0 c' := by unfold sliced; exact ⟨_, _, rfl⟩
/-- A list up to a place. -/
theorem ints_to {w : World} {v : Value} {l : List Int} {m : Nat} (h : IntsIn w v l) (hm : m ≤ l.length) : ∃ A c,
    (∀ W, (Instr.slice 41 v none (some (.int .i64 (m : Nat))) none).run Try.prog W = .ok (.slice A m c) W) ∧ ∀ B W, w.heap.size ≤ B → Below B w W → IntsIn W (.slice A m c) (l.take m) := by
  have hz : ∀ W, (sizeOf (Try.prog.elem 41)).run Try.prog W = .ok 1 W := fun W => by simp [go_sem]
  rcases h with ⟨rfl, a, c, rfl⟩ | ⟨b, off, cap, rfl, h2, h3, h4, h5⟩
  · obtain rfl : m = 0 := by simpa using hm
    obtain ⟨A, c', e⟩ := isliced_nil a c
    refine ⟨A, c', fun W => ?_, fun B W _ _ => Or.inl ⟨by simp, A, c', rfl⟩⟩
    rw [run_slice_h W _ a 0 c Try.underlying41 .i64 _ (by omega) (by omega), hz]
    show Result.ok (sliced _ _ _ _ _) W = _
    rw [Int.toNat_natCast, e]
  · have hlen : (l.take m).length = m := by rw [List.length_take]; omega
    by_cases h0 : m = 0
    · subst h0
      have hs : ∃ A, sliced (some (⟨b, off, none⟩ : Addr)) 0 0 cap 1 = .slice A 0 cap := by unfold sliced; exact ⟨_, rfl⟩
      obtain ⟨A, e⟩ := hs
      refine ⟨A, cap, fun W => ?_, fun B W _ _ => Or.inl ⟨by simp, A, cap, rfl⟩⟩
      rw [run_slice_h W _ _ _ cap Try.underlying41 .i64 _ (by omega) (by omega), hz]
      show Result.ok (sliced _ _ _ _ _) W = _
      rw [Int.toNat_natCast, e]
    · have e : sliced (some (⟨b, off, none⟩ : Addr)) 0 m cap 1 = .slice (some ⟨b, off, none⟩) m cap := by
        unfold sliced
        rw [if_neg (by omega)]
        simp [Addr.add]
      refine ⟨_, cap, fun W => ?_, fun B W hB hb => Or.inr ⟨b, off, cap, by rw [hlen], by omega, h3, Nat.lt_of_lt_of_le h4 hb.size, fun i x hx => ?_⟩⟩
      · rw [run_slice_h W _ _ _ cap Try.underlying41 .i64 _ (by omega) (by omega), hz]
        show Result.ok (sliced _ _ _ _ _) W = _
        rw [Int.toNat_natCast, e]
      · have hi : i < m := by have := (List.getElem?_eq_some_iff.1 hx).1; rw [hlen] at this; exact this
        rw [List.getElem?_take, if_pos hi] at hx
        exact (hb.cell (p := ⟨b, off + i, none⟩) (Nat.lt_of_lt_of_le h4 hB)).trans (h5 i x hx)
theorem ints_isnil (A : Option Addr) (n c : Nat) (w : World) : (binOp .eql 41 (.slice A n c) (.slice none 0 0)).run Try.prog w = .ok (.bool A.isNone) w := by
  have he := run_equal_slice_nil (P := Try.prog) w 41 3 A n c Try.underlying41
  simp only [binOp]
  simp [he]
/-- A list of a call's own. -/
def IntsOut (w : World) (l : List Int) (e : Ending) (w' : World) : Prop := ∃ A c, e = .returned (.slice A l.length c) ∧ IRow w' w.heap.size (.slice A l.length c) l ∧ Below w.heap.size w w'
end Go.Proofs.Ytcfidpjhemjbjaa

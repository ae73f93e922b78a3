/- Of the library, over numbers: Index, Contains, Grow of nothing, Concat, Sort. -/
import Derived.Test.YtcfidpjhemjbjaaLvs
import Derived.Test.YtcfidpjhemjbjaaILay
import Derived.Lib.OwnBridge
import Derived.Lib.AppendZeros
import Derived.WalkMore
namespace Go.Proofs.Ytcfidpjhemjbjaa
open Go.RowKit Go.Shelf
set_option linter.unusedVariables false
set_option maxRecDepth 100000

def IndexEnd (l : List Int) (x : Int) (w : World) (e : Ending) (w' : World) : Prop := (∃ k : Int, e = .returned (.int .i64 k) ∧ decide (0 ≤ k) = decide (x ∈ l)) ∧ w' = w
theorem zero_size (n : Nat) : (Builtin.zeroCells (Value.int .i64 0).cells n).size = n := by
  unfold Builtin.zeroCells
  rw [Array.size_map, Array.size_range]
  exact Nat.mul_one n
/-- slices.Grow of nothing: a row of the call's own without elements. -/
theorem grow_any (n : Nat) (w : World) (hn : n ≤ 1000000) : Calls Try.prog 51 #[.slice none 0 0, .int .i64 (n : Nat)] w fun e w' => ∃ A c, e = .returned (.slice A 0 c) ∧ IRow w' w.heap.size (.slice A 0 c) [] ∧ Below w.heap.size w w' := by
  by_cases h0 : n = 0
  · subst h0
    go_enter Try.func51, Try.ntmps51
    go_wp2
    go_ret
    exact ⟨none, 0, rfl, IRow.nil _ _, Below.refl _ _⟩
  · obtain ⟨i0, hi, hz0, hz1, hz2⟩ := info_parts info_int
    have e1 := Lib.run_append_nil_zeros (P := Try.prog) w 41 3 41 3 i0 _ .i64 .i64 Try.underlying41 Try.underlying3 hi hz0 n (by omega) (by rw [hz1]; decide) (by omega) (by rw [hz2]; omega)
    have hc1 := grownCap_ge w n 0 3
    have hc2 := grownCap_le_maxLen w n 0 3 (by unfold maxLen; omega)
    generalize grownCap w n 0 3 = c at *
    generalize hcs : Builtin.zeroCells (Value.int .i64 0).cells n ++ Builtin.zeroCells (Value.int .i64 0).cells (c - n) = cs at *
    have hsz : cs.size = c * 1 := by rw [← hcs, Array.size_append, zero_size, zero_size]; omega
    have hb : Below w.heap.size w (w.drew.alloc (.cells cs 3)) := (Below.refl w.heap.size w).drew.alloc (Nat.le_refl _) _
    have hrow : IRow (w.drew.alloc (.cells cs 3)) w.heap.size (.slice (some ⟨w.heap.size, 0, none⟩) 0 c) [] :=
      ⟨rfl, Or.inr ⟨w.heap.size, c, cs, rfl, Nat.le_refl _, Blok.new w.drew 3 cs, Nat.zero_le _, hc2, hsz, rfl⟩⟩
    have hsl : ∀ W, (Instr.slice 41 (.slice (some ⟨w.heap.size, 0, none⟩) n c) none (some (.int .i64 0)) none).run Try.prog W = .ok (.slice (some ⟨w.heap.size, 0, none⟩) 0 c) W := fun W => by
      have hz : (sizeOf (Try.prog.elem 41)).run Try.prog W = .ok 1 W := by simp [go_sem]
      rw [run_slice_h W _ _ _ c Try.underlying41 .i64 _ (by omega) (by omega), hz]
      show Result.ok (sliced _ _ _ _ _) W = _
      unfold sliced
      rw [if_neg (by omega)]
      simp [Addr.add]
    have HE := Lib.hid e1
    have HR := Lib.hid hrow
    have HB := Lib.hid hb
    have q1 : (0 : Int) < (n : Int) := by omega
    have q2 : decide ((n : Int) < 0) = false := decide_eq_false (by omega)
    clear e1 hrow hb hsz hcs hc1 hc2 hi hz0 hz1 hz2 h0
    go_enter Try.func51, Try.ntmps51
    go_wp2_with (first | (at_builtin; refine wpList_append_two rfl _ _ rfl rfl rfl HE.out ?_) | fail)
    go_ret
    exact ⟨_, _, rfl, HR.out, HB.out⟩
end Go.Proofs.Ytcfidpjhemjbjaa

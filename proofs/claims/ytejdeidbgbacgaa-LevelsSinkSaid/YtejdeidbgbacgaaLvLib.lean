/- Of the library, over numbers: Index, Contains, Grow of nothing, Concat, Sort. -/
import Derived.Test.YtejdeidbgbacgaaLvs
import Derived.Test.YtejdeidbgbacgaaILay
import Derived.Lib.OwnBridge
import Derived.Lib.AppendZeros
import Derived.WalkMore
namespace Go.Proofs.Ytejdeidbgbacgaa
open Go.RowKit Go.Shelf
set_option linter.unusedVariables false
set_option maxRecDepth 100000

def IndexEnd (l : List Int) (x : Int) (w : World) (e : Ending) (w' : World) : Prop := (∃ k : Int, e = .returned (.int .i64 k) ∧ decide (0 ≤ k) = decide (x ∈ l)) ∧ w' = w
theorem index_any (v : Value) (l : List Int) (x : Int) (w : World) (h : IntsIn w v l) (hl : l.length ≤ 1000000) : Calls Try.prog 33 #[v, .int .i64 x] w (IndexEnd l x w) := by
  obtain ⟨A, off, cap, rfl, -, hc⟩ := h.form
  have HC := Lib.hid hc
  obtain ⟨n, hn⟩ : ∃ n, n = l.length := ⟨_, rfl⟩
  have HN := Lib.hid hn
  rw [← hn] at hl ⊢
  clear h hc hn
  go_enter Try.func33, Try.ntmps33
  go_wp2
  go_loopw [8] (fun i wr => ∃ k : Nat, k ≤ n ∧ i = .int .i64 k ∧ x ∉ l.take k ∧ wr = w) (fun i _ => n - (intOf i).toNat)
  case atStart => exact ⟨0, Nat.zero_le _, rfl, by simp, rfl⟩
  case round =>
    obtain ⟨k, hk, rfl, hnot, rfl⟩ := hrel
    have HNOT := Lib.hid hnot
    clear hnot
    by_cases hlt : k < n
    · have l1 : (k : Int) < (n : Int) := by omega
      obtain ⟨y, hy⟩ : ∃ y, l[k]? = some y := ⟨_, List.getElem?_eq_getElem (by rw [← HN.out]; exact hlt)⟩
      obtain ⟨b, rfl, hb, c1⟩ := HC.out k y hy
      have HY := Lib.hid hy
      clear hy
      by_cases hxy : x = y
      · subst hxy
        have e : (x == x) = true := by simp
        have HM := Lib.hid (List.mem_of_getElem? HY.out)
        go_wp2
        go_ret
        exact ⟨⟨_, rfl, by rw [decide_eq_true HM.out]; exact decide_eq_true (by omega)⟩, rfl⟩
      · have e : (x == y) = false := beq_eq_false_iff_ne.2 hxy
        have HNE := Lib.hid hxy
        clear hxy
        go_wp2
        refine ⟨⟨k + 1, by omega, by go_num, ?_, trivial⟩, by simp [intOf]; omega⟩
        rw [List.take_add_one, HY.out]
        intro hm
        rcases List.mem_append.1 hm with hm | hm
        · exact HNOT.out hm
        · exact HNE.out (by simpa using hm)
    · obtain rfl : k = n := by omega
      have l1 : ¬ (k : Int) < (k : Int) := by omega
      have HM := Lib.hid (show x ∉ l by have h := HNOT.out; rwa [HN.out, List.take_length] at h)
      clear hlt
      go_wp2
      go_ret
      exact ⟨⟨-1, rfl, by rw [decide_eq_false HM.out]; rfl⟩, rfl⟩
theorem contains_any (v : Value) (l : List Int) (x : Int) (w : World) (h : IntsIn w v l) (hl : l.length ≤ 1000000) : Calls Try.prog 29 #[v, .int .i64 x] w fun e w' => e = .returned (.bool (decide (x ∈ l))) ∧ w' = w := by
  have H := Lib.hid (index_any v l x w h hl)
  clear h hl
  unfold IndexEnd at H
  generalize decide (x ∈ l) = q at *
  go_enter Try.func29, Try.ntmps29
  go_wp2_with fail
  refine H.out.mono ?_
  rintro e w' ⟨⟨k, rfl, hk⟩, rfl⟩
  have HK := Lib.hid hk
  clear hk
  go_wp2
  go_ret
  exact ⟨by rw [← HK.out]; rfl, rfl⟩

theorem zero_size (n : Nat) : (Builtin.zeroCells (Value.int .i64 0).cells n).size = n := by
  unfold Builtin.zeroCells
  rw [Array.size_map, Array.size_range]
  exact Nat.mul_one n
/-- slices.Grow of nothing: a row of the call's own without elements. -/
theorem grow_any (n : Nat) (w : World) (hn : n ≤ 1000000) : Calls Try.prog 32 #[.slice none 0 0, .int .i64 (n : Nat)] w fun e w' => ∃ A c, e = .returned (.slice A 0 c) ∧ IRow w' w.heap.size (.slice A 0 c) [] ∧ Below w.heap.size w w' := by
  by_cases h0 : n = 0
  · subst h0
    go_enter Try.func32, Try.ntmps32
    go_wp2
    go_ret
    exact ⟨none, 0, rfl, IRow.nil _ _, Below.refl _ _⟩
  · obtain ⟨i0, hi, hz0, hz1, hz2⟩ := info_parts info_int
    have e1 := Lib.run_append_nil_zeros (P := Try.prog) w 25 3 25 3 i0 _ .i64 .i64 Try.underlying25 Try.underlying3 hi hz0 n (by omega) (by rw [hz1]; decide) (by omega) (by rw [hz2]; omega)
    have hc1 := grownCap_ge w n 0 3
    have hc2 := grownCap_le_maxLen w n 0 3 (by unfold maxLen; omega)
    generalize grownCap w n 0 3 = c at *
    generalize hcs : Builtin.zeroCells (Value.int .i64 0).cells n ++ Builtin.zeroCells (Value.int .i64 0).cells (c - n) = cs at *
    have hsz : cs.size = c * 1 := by rw [← hcs, Array.size_append, zero_size, zero_size]; omega
    have hb : Below w.heap.size w (w.drew.alloc (.cells cs 3)) := (Below.refl w.heap.size w).drew.alloc (Nat.le_refl _) _
    have hrow : IRow (w.drew.alloc (.cells cs 3)) w.heap.size (.slice (some ⟨w.heap.size, 0, none⟩) 0 c) [] :=
      ⟨rfl, Or.inr ⟨w.heap.size, c, cs, rfl, Nat.le_refl _, Blok.new w.drew 3 cs, Nat.zero_le _, hc2, hsz, rfl⟩⟩
    have hsl : ∀ W, (Instr.slice 25 (.slice (some ⟨w.heap.size, 0, none⟩) n c) none (some (.int .i64 0)) none).run Try.prog W = .ok (.slice (some ⟨w.heap.size, 0, none⟩) 0 c) W := fun W => by
      have hz : (sizeOf (Try.prog.elem 25)).run Try.prog W = .ok 1 W := by simp [go_sem]
      rw [run_slice_h W _ _ _ c Try.underlying25 .i64 _ (by omega) (by omega), hz]
      show Result.ok (sliced _ _ _ _ _) W = _
      unfold sliced
      rw [if_neg (by omega)]
      simp [Addr.add]
    have HE := Lib.hid e1
    have HR := Lib.hid hrow
    have HB := Lib.hid hb
    have q1 : (0 : Int) < (n : Int) := by omega
    have q2 : decide ((n : Int) < 0) = false := decide_eq_false (by omega)
    clear e1 hrow hb hsz hcs hc1 hc2 hi hz0 hz1 hz2 h0
    go_enter Try.func32, Try.ntmps32
    go_wp2_with (first | (at_builtin; refine wpList_append_two rfl _ _ rfl rfl rfl HE.out ?_) | fail)
    go_ret
    exact ⟨_, _, rfl, HR.out, HB.out⟩
end Go.Proofs.Ytejdeidbgbacgaa

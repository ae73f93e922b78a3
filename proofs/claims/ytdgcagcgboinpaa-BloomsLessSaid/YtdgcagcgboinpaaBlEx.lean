/- The chapter's examples of blooms. -/
import Derived.Test.YtdgcagcgboinpaaBlMake
import Derived.Test.YtdgcagcgboinpaaBlHas
namespace Go.Proofs.Ytdgcagcgboinpaa
open Go.RowKit
set_option linter.unusedVariables false

/-- The two numbers' box. -/
theorem two_cells (w : World) (a b : Int) (t : TypeId) : (w.alloc (.cells #[.int .i64 a, .int .i64 b] t)).cell? ⟨w.heap.size, 0, none⟩ = some (.int .i64 a) ∧ (w.alloc (.cells #[.int .i64 a, .int .i64 b] t)).cell? ⟨w.heap.size, 1, none⟩ = some (.int .i64 b) := by
  have r : RowB (w.alloc (.cells #[.int .i64 a, .int .i64 b] t)) w.heap.size 2 (fun i => if i = 0 then .int .i64 a else .int .i64 b) := ⟨_, t, (0, 0), World.alloc_heap_new w _, Nat.le_refl _, Or.inl rfl, fun i hi => by
    match i, hi with
    | 0, _ => rfl
    | 1, _ => rfl⟩
  exact ⟨r.cell (i := 0) (by decide), r.cell (i := 1) (by decide)⟩
theorem hold_at {P : Prop} {W0 W W' : World} (hb : Below W.heap.size W W') (h : Below W0.heap.size W0 W ∧ P) : Below W0.heap.size W0 W' := bj h.1 hb
theorem prb_e1 : prb 5 0 8 = 5 := by decide +kernel
theorem prb_e2 : prb 5 3 8 = 0 := by decide +kernel
theorem prb_e3 : prb 5 1 0 = 0 := by decide +kernel
theorem make_e1 : makeL [0] 2 8 = [3] := by decide +kernel
theorem make_e2 : makeL [] 2 8 = [0] := by decide +kernel
theorem make_e3 : makeL [] 2 9 = [] := by decide +kernel
theorem has_e1 : hasL [3] 2 0 = true := by decide +kernel
theorem has_e2 : hasL [3] 3 0 = false := by decide +kernel

theorem row_one (W : World) : RowOf u64V (W.alloc (.cells #[.int .u64 0] 22)) (.slice (some ⟨W.heap.size, 0, none⟩) 1 1) [0] := by
  refine Or.inr ⟨by decide, W.heap.size, 0, 1, rfl, Nat.le_refl _, by simp, fun i hi => ?_⟩
  obtain rfl : i = 0 := by simp at hi; omega
  have h := Boxed.cell (Boxed.new W 22 (.int .u64 0))
  exact h
theorem row_nil (W : World) : RowOf u64V W (.slice none 0 0) [] := Or.inl ⟨rfl, _, _, rfl⟩

set_option maxHeartbeats 2000000 in
theorem bloomed_true (w : World) : Calls Try.prog 8 #[] w fun e w' => e = .returned (.bool true) ∧ Below w.heap.size w w' := by
  have h1 := Lib.hid fun W => probe_any 5 0 8 W (by decide) (by decide) (by decide)
  have h2 := Lib.hid fun W => probe_any 5 3 8 W (by decide) (by decide) (by decide)
  have h3 := Lib.hid fun W => probe_any 5 1 0 W (by decide) (by decide) (by decide)
  rw [prb_e1] at h1
  rw [prb_e2] at h2
  rw [prb_e3] at h3
  have m1 := Lib.hid fun W => make_any _ [0] 2 8 _ (row_one W) (fun x hx => by simp at hx; subst hx; decide) (by decide) (by decide) (by decide)
  have m2 := Lib.hid fun W => make_any _ [] 2 8 W (row_nil W) (fun x hx => by cases hx) (by decide) (by decide) (by decide)
  have m3 := Lib.hid fun W => make_any _ [] 2 9 W (row_nil W) (fun x hx => by cases hx) (by decide) (by decide) (by decide)
  rw [make_e1] at m1
  rw [make_e2] at m2
  rw [make_e3] at m3
  have a1 := Lib.hid fun W => has_any 2 0 ⟨#[3]⟩ W (by decide) (by decide) (by decide)
  have a2 := Lib.hid fun W => has_any 3 0 ⟨#[3]⟩ W (by decide) (by decide) (by decide)
  have a3 := Lib.hid fun W => has_any 3 0 ⟨#[]⟩ W (by decide) (by decide) (by decide)
  simp only [has_e1, has_e2, hasL_nil] at a1 a2 a3
  have e1 : bs [3] = ⟨#[3]⟩ := rfl
  have e2 : bs [0] = ⟨#[0]⟩ := rfl
  have e3 : bs [] = ⟨#[]⟩ := rfl
  rw [e1] at m1
  rw [e2] at m2
  rw [e3] at m3
  clear e1 e2 e3
  go_enter Try.func8, Try.ntmps8
  go_wp2_with fail
  refine (h1.out _).mono ?_
  rintro e w' ⟨rfl, rfl⟩
  go_wp2_with fail
  refine (h2.out _).mono ?_
  rintro e w' ⟨rfl, rfl⟩
  go_wp2_with fail
  refine (h3.out _).mono ?_
  rintro e w' ⟨rfl, rfl⟩
  go_wp2_with fail
  refine (m1.out _).mono ?_
  rintro e w1 ⟨rfl, b1⟩
  go_wp2_with fail
  refine (m2.out _).mono ?_
  rintro e w2 ⟨rfl, b2⟩
  go_wp2_with fail
  refine (m3.out _).mono ?_
  rintro e w3 ⟨rfl, b3⟩
  go_wp2_with fail
  refine (a1.out _).mono ?_
  rintro e w4 ⟨rfl, b4⟩
  go_wp2_with fail
  refine (a2.out _).mono ?_
  rintro e w5 ⟨rfl, b5⟩
  go_wp2_with fail
  refine (a3.out _).mono ?_
  rintro e w6 ⟨rfl, b6⟩
  go_wp2
  go_ret
  have b0 : Below w.heap.size w (w.alloc (.cells #[.int .u64 0] 22)) := (Below.refl _ w).alloc (Nat.le_refl _) _
  exact ⟨rfl, bj (bj (bj (bj (bj (bj b0 b1) b2) b3) b4) b5) b6⟩
end Go.Proofs.Ytdgcagcgboinpaa

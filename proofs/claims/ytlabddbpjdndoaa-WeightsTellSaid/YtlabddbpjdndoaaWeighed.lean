/- The chapter's examples of layer 4, as the statements ask them. -/
import Derived.Test.YtlabddbpjdndoaaWeightsEndsAny
namespace Go.Proofs.Ytlabddbpjdndoaa
open Go.RowKit
set_option linter.unusedVariables false

theorem row3 (w : World) (a b c : Nat) : RowOf f64V (w.alloc (Obj.cells #[.float .f64 a, .float .f64 b, .float .f64 c] 23)) (.slice (some ⟨w.heap.size, 0, none⟩) 3 3) [a, b, c] := by
  have hs : (w.alloc (Obj.cells #[.float .f64 a, .float .f64 b, .float .f64 c] 23)).heap[w.heap.size]? = some (Obj.cells #[.float .f64 a, .float .f64 b, .float .f64 c] 23) := by
    show (w.heap.push _)[w.heap.size]? = _
    simp
  refine Or.inr ⟨by simp, w.heap.size, 0, 3, rfl, by simp, by show w.heap.size < (w.heap.push _).size; simp, fun i hi => ?_⟩
  have h1 : i = 0 ∨ i = 1 ∨ i = 2 := by simp at hi; omega
  unfold World.cell?
  rw [hs]
  rcases h1 with rfl | rfl | rfl <;> rfl
theorem row0 (w : World) : RowOf f64V w (.slice none 0 0) [] := Or.inl ⟨rfl, _, _, rfl⟩
theorem words3 {a b c : Nat} (ha : a < 18446744073709551616) (hb : b < 18446744073709551616) (hc : c < 18446744073709551616) : Words [a, b, c] := by
  intro x hx
  simp at hx
  rcases hx with rfl | rfl | rfl <;> assumption
theorem words0 : Words [] := fun x hx => by cases hx

theorem ex_key (b n : Nat) (hb : b < 18446744073709551616) (h : keyS b = n) (w : World) :
    Calls Try.prog 10 #[.float .f64 b] w fun e w' => e = .returned (.int .u64 (n : Nat)) ∧ w = w' := h ▸ key_any b w hb
theorem ex_class (b n : Nat) (hb : b < 18446744073709551616) (h : classS b = n) (w : World) :
    Calls Try.prog 15 #[.float .f64 b] w fun e w' => e = .returned (.int .i64 (n : Nat)) ∧ w = w' := h ▸ class_any b w hb
theorem ex_less (a b : Nat) (d : Bool) (ha : a < 18446744073709551616) (hb : b < 18446744073709551616) (h : decide (keyS a < keyS b) = d) (w : World) :
    Calls Try.prog 18 #[.float .f64 a, .float .f64 b] w fun e w' => e = .returned (.bool d) ∧ w = w' := h ▸ less_any a b w ha hb
theorem ex_same (a b : Nat) (d : Bool) (ha : a < 18446744073709551616) (hb : b < 18446744073709551616) (h : decide (a = b) = d) (w : World) :
    Calls Try.prog 12 #[.float .f64 a, .float .f64 b] w fun e w' => e = .returned (.bool d) ∧ w = w' := h ▸ same_ref a b w ha hb
theorem ex_ends (v : Value) (l : List Nat) (w : World) (h : RowOf f64V w v l) (hl : l.length ≤ 1000) (hw : Words l) (s t : Nat) (h1 : leastL l = s) (h2 : mostL l = t) (h0 : l ≠ []) :
    Calls Try.prog 21 #[v] w fun e w' => e = .returned (.tuple #[.float .f64 s, .float .f64 t, .bool true]) ∧ Below w.heap.size w w' := by
  have h := ends_any v l w h hl hw
  rw [if_neg h0, h1, h2] at h
  exact h
theorem ex_ends0 (w : World) :
    Calls Try.prog 21 #[.slice none 0 0] w fun e w' => e = .returned (.tuple #[.float .f64 0, .float .f64 0, .bool false]) ∧ Below w.heap.size w w' := by
  have h := ends_any _ [] w (row0 w) (by decide) words0
  rw [if_pos rfl] at h
  exact h
theorem ex_sum (v : Value) (l : List Nat) (w : World) (h : RowOf f64V w v l) (hl : l.length ≤ 1000) (hw : Words l) (n : Nat) (hs : sumO l = some n) :
    Calls Try.prog 24 #[v] w fun e w' => e = .returned (.float .f64 n) ∧ Below w.heap.size w w' := by
  refine (sum_any v l w h hl hw).mono ?_
  rintro e w' ⟨r, he, hok, hb⟩
  rw [hs] at hok
  exact ⟨by rw [he, hok.2], hb⟩

set_option maxHeartbeats 2000000 in
theorem weighed_true (w : World) : Calls Try.prog 19 #[] w fun e w' => e = .returned (.bool true) ∧ Below w.heap.size w w' := by
  have o1 : (FloatKind.f64.format.order 4607182418800017408 4607182418800017408 == some Ordering.eq) = true := by decide +kernel
  have o2 : (FloatKind.f64.format.order 0 0 == some Ordering.eq) = true := by decide +kernel
  go_enter Try.func19, Try.ntmps19
  go_wp2_with fail
  refine (minus_any _).mono ?_
  rintro e w1 ⟨rfl, rfl⟩
  go_wp2_with fail
  have hb0 := (Below.refl w.heap.size w).alloc (Nat.le_refl _) (Obj.cells #[.float .f64 4607182418800017408, .float .f64 0, .float .f64 9223372036854775808] 23)
  refine (ex_ends _ [4607182418800017408, 0, 9223372036854775808] _ (row3 w _ _ _) (by decide) (words3 (by decide) (by decide) (by decide)) 9223372036854775808 4607182418800017408 (by decide +kernel) (by decide +kernel) (by decide)).mono ?_
  rintro e w1 ⟨rfl, hb1⟩
  have hb2 := hb0.trans (hb1.mono hb0.size)
  clear hb0 hb1
  go_wp2_with fail
  refine (ex_ends0 _).mono ?_
  rintro e w2 ⟨rfl, hb3⟩
  have hb4 := hb2.trans (hb3.mono hb2.size)
  clear hb2 hb3
  go_wp2_with fail
  refine (ex_key 0 9223372036854775808 (by decide) (by decide) _).mono ?_
  rintro e w3 ⟨rfl, rfl⟩
  go_wp2_with fail
  refine (minus_any _).mono ?_
  rintro e w3 ⟨rfl, rfl⟩
  go_wp2_with fail
  refine (ex_key 9223372036854775808 9223372036854775807 (by decide) (by decide) _).mono ?_
  rintro e w3 ⟨rfl, rfl⟩
  go_wp2_with fail
  refine (ex_key 4607182418800017408 13830554455654793216 (by decide) (by decide) _).mono ?_
  rintro e w3 ⟨rfl, rfl⟩
  go_wp2_with fail
  refine (ex_class 13830554455654793216 2 (by decide) (by decide) _).mono ?_
  rintro e w3 ⟨rfl, rfl⟩
  go_wp2_with fail
  refine (minus_any _).mono ?_
  rintro e w3 ⟨rfl, rfl⟩
  go_wp2_with fail
  refine (ex_class 9223372036854775808 3 (by decide) (by decide) _).mono ?_
  rintro e w3 ⟨rfl, rfl⟩
  go_wp2_with fail
  refine (minus_any _).mono ?_
  rintro e w3 ⟨rfl, rfl⟩
  go_wp2_with fail
  refine (ex_less 9223372036854775808 0 true (by decide) (by decide) (by decide) _).mono ?_
  rintro e w3 ⟨rfl, rfl⟩
  go_wp2_with fail
  have hb5 := hb4.alloc hb4.size (Obj.cells #[.float .f64 9214871658872686752, .float .f64 9214871658872686752, .float .f64 18438243695727462560] 23)
  refine (ex_sum _ [9214871658872686752, 9214871658872686752, 18438243695727462560] _ (row3 _ _ _ _) (by decide) (words3 (by decide) (by decide) (by decide)) 9218868437227405312 (by decide +kernel)).mono ?_
  rintro e w4 ⟨rfl, hb6⟩
  have hb7 := hb5.trans (hb6.mono hb5.size)
  clear hb4 hb5 hb6
  go_wp2_with fail
  refine (ex_class 9218868437227405312 5 (by decide) (by decide) _).mono ?_
  rintro e w5 ⟨rfl, rfl⟩
  go_wp2_with fail
  refine (ex_sum _ [] _ (row0 _) (by decide) words0 0 (by decide)).mono ?_
  rintro e w5 ⟨rfl, hb8⟩
  have hb9 := hb7.trans (hb8.mono hb7.size)
  clear hb7 hb8
  go_wp2_with fail
  refine (ex_same 0 0 true (by decide) (by decide) (by decide) _).mono ?_
  rintro e w6 ⟨rfl, rfl⟩
  go_wp2_with fail
  refine (minus_any _).mono ?_
  rintro e w6 ⟨rfl, rfl⟩
  go_wp2_with fail
  refine (ex_same 9223372036854775808 9223372036854775808 true (by decide) (by decide) (by decide) _).mono ?_
  rintro e w6 ⟨rfl, rfl⟩
  go_wp2
  go_ret
  exact ⟨rfl, hb9⟩
end Go.Proofs.Ytlabddbpjdndoaa

/- The walk of annalistlaw04.WeightsOrder. -/
import Derived.Test.YtlabddbpjdndoaaWeighed
namespace Go.Proofs.Ytlabddbpjdndoaa.weightsOrderW
open Go.RowKit
set_option linter.unusedVariables false

theorem sr_zero : sr 0 = 0 := by decide
theorem key_sr {x y : Nat} (hx : x < 18446744073709551616) (hy : y < 18446744073709551616) (h : sr x ≠ 0 ∨ sr y ≠ 0) : keyS x < keyS y ↔ sr x < sr y := by
  unfold keyS sr at *
  split <;> split <;> simp only [*, if_true, if_false] at h ⊢ <;> omega
theorem key_noughts {x y : Nat} (hx : x < 18446744073709551616) (hy : y < 18446744073709551616) (h1 : sr x = 0) (h2 : sr y = 0) : keyS x < keyS y ↔ y < x := by
  unfold keyS sr at *
  split <;> split <;> simp only [*, if_true, if_false] at h1 h2 ⊢ <;> omega
theorem key_nan_left {x y : Nat} (hx : x < 18446744073709551616) (hy : y < 18446744073709551616) (h1 : nanB x = true) (h2 : nanB y = false) : keyS x < keyS y ↔ 9223372036854775808 ≤ x := by
  have k1 : 9218868437227405312 < x % 9223372036854775808 := of_decide_eq_true h1
  have k2 : ¬ 9218868437227405312 < y % 9223372036854775808 := of_decide_eq_false h2
  unfold keyS
  split <;> split <;> omega
theorem key_nan_right {x y : Nat} (hx : x < 18446744073709551616) (hy : y < 18446744073709551616) (h1 : nanB x = false) (h2 : nanB y = true) : keyS x < keyS y ↔ y < 9223372036854775808 := by
  have k1 : ¬ 9218868437227405312 < x % 9223372036854775808 := of_decide_eq_false h1
  have k2 : 9218868437227405312 < y % 9223372036854775808 := of_decide_eq_true h2
  unfold keyS
  split <;> split <;> omega
theorem class_nan {x : Nat} (h : nanB x = true) : classS x = 0 := by
  unfold classS
  rw [if_pos (of_decide_eq_true h)]
theorem class_mono {x y : Nat} (hx : x < 18446744073709551616) (hy : y < 18446744073709551616) (h1 : nanB x = false) (h2 : nanB y = false) (h : keyS x < keyS y) : classS x ≤ classS y := by
  have k1 : ¬ 9218868437227405312 < x % 9223372036854775808 := of_decide_eq_false h1
  have k2 : ¬ 9218868437227405312 < y % 9223372036854775808 := of_decide_eq_false h2
  unfold keyS at h
  unfold classS
  rw [if_neg k1, if_neg k2]
  split at h <;> split at h
  all_goals repeat' split
  all_goals omega

/-- The answers' Bools fit together. -/
structure Fits (x y cx cy : Nat) (l1 l2 nx ny zx zy : Bool) : Prop where
  both : (l1 && l2) = false
  same : l1 = false → l2 = false → ((x : Int) != (y : Int)) = false
  class0 : nx = true → cx = 0
  left : nx = true → ny = false → decide ((9223372036854775808 : Int) ≤ (x : Int)) = l1
  right : nx = false → ny = true → decide ((y : Int) < (9223372036854775808 : Int)) = l1
  nought : nx = false → ny = false → zx = true → zy = true → decide (y < x) = l1
  less : nx = false → ny = false → zx = false ∨ zy = false → (FloatKind.f64.format.order x y == some Ordering.lt) = l1
  rise : nx = false → ny = false → l1 = true → cx ≤ cy

theorem fits {x y : Nat} (hx : x < 18446744073709551616) (hy : y < 18446744073709551616) :
    Fits x y (classS x) (classS y) (decide (keyS x < keyS y)) (decide (keyS y < keyS x)) (nanB x) (nanB y) (FloatKind.f64.format.order x 0 == some Ordering.eq) (FloatKind.f64.format.order y 0 == some Ordering.eq) := by
  have z : ∀ {b : Nat}, b < 18446744073709551616 → nanB b = false → (FloatKind.f64.format.order b 0 == some Ordering.eq) = decide (sr b = 0) := by
    intro b hb hn
    rw [f_eq hb (by decide), hn, show nanB 0 = false from by decide, sr_zero]
    rfl
  refine ⟨?_, ?_, fun h => class_nan h, ?_, ?_, ?_, ?_, ?_⟩
  · by_cases h : keyS x < keyS y
    · rw [decide_eq_true h, decide_eq_false (by omega)]; rfl
    · rw [decide_eq_false h]; rfl
  · intro h1 h2
    have k1 : ¬ keyS x < keyS y := of_decide_eq_false h1
    have k2 : ¬ keyS y < keyS x := of_decide_eq_false h2
    have := key_inj hx hy (by omega)
    subst this
    simp
  · intro h1 h2
    rw [decide_eq_decide.2 (key_nan_left hx hy h1 h2)]
    by_cases h : 9223372036854775808 ≤ x
    · rw [decide_eq_true h]; exact ge_yes h
    · rw [decide_eq_false h]; exact ge_no h
  · intro h1 h2
    rw [decide_eq_decide.2 (key_nan_right hx hy h1 h2)]
    by_cases h : y < 9223372036854775808
    · rw [decide_eq_true h]; exact lt_yes h
    · rw [decide_eq_false h]; exact lt_no h
  · intro h1 h2 h3 h4
    rw [z hx h1] at h3
    rw [z hy h2] at h4
    rw [decide_eq_decide.2 (key_noughts hx hy (of_decide_eq_true h3) (of_decide_eq_true h4))]
  · intro h1 h2 h3
    rw [z hx h1, z hy h2] at h3
    rw [f_lt hx hy, h1, h2]
    have h4 : sr x ≠ 0 ∨ sr y ≠ 0 := h3.imp of_decide_eq_false of_decide_eq_false
    rw [decide_eq_decide.2 (key_sr hx hy h4)]
    rfl
  · intro h1 h2 h3
    exact class_mono hx hy h1 h2 (of_decide_eq_true h3)

set_option maxHeartbeats 4000000 in
theorem walk (a0 a1 : Int) (w0 : (Lit.int .u64 a0).wf = true) (w1 : (Lit.int .u64 a1).wf = true) (w : World) :
    Calls Try.prog 6 #[.int .u64 a0, .int .u64 a1] w fun e w' => e = .returned (.bool true) ∧ Below w.heap.size w w' := by
  obtain ⟨x, rfl, hx⟩ := u64_nat w0
  obtain ⟨y, rfl, hy⟩ := u64_nat w1
  clear w0 w1
  have hf := fun (b : Nat) w => frombits_run b w
  have lxy := Lib.hid (fun w => less_any x y w hx hy)
  have lyx := Lib.hid (fun w => less_any y x w hy hx)
  have lxx := Lib.hid (fun w => less_any x x w hx hx)
  have cx := Lib.hid (fun w => class_any x w hx)
  have cy := Lib.hid (fun w => class_any y w hy)
  have hfit := fits hx hy
  have e0 : decide (keyS x < keyS x) = false := decide_eq_false (by omega)
  rw [e0] at lxx
  have ex : (FloatKind.f64.format.order x x != some Ordering.eq) = nanB x := by rw [f_ne, f_self hx]; cases nanB x <;> rfl
  have ey : (FloatKind.f64.format.order y y != some Ordering.eq) = nanB y := by rw [f_ne, f_self hy]; cases nanB y <;> rfl
  clear hx hy e0
  generalize decide (keyS x < keyS y) = l1 at *
  generalize decide (keyS y < keyS x) = l2 at *
  generalize classS x = kx at *
  generalize classS y = ky at *
  generalize nanB x = nx at *
  generalize nanB y = ny at *
  generalize hzx : (FloatKind.f64.format.order x 0 == some Ordering.eq) = zx at *
  generalize hzy : (FloatKind.f64.format.order y 0 == some Ordering.eq) = zy at *
  obtain ⟨f1, f2, f3, f4, f5, f6, f7, f8⟩ := hfit
  cases l1 <;> cases l2
  · clear f1
    have g2 := f2 rfl rfl
    clear f2
    cases nx
    · clear f3 f4
      cases ny
      · clear f5
        cases zx
        · cases zy
          · have g7 := f7 rfl rfl (Or.inl rfl)
            clear f6 f7 f8
            go_enter Try.func6, Try.ntmps6
            go_wp2_with fail
            refine (lxy.out _).mono ?_
            rintro e w' ⟨rfl, rfl⟩
            go_wp2_with fail
            refine (lxx.out _).mono ?_
            rintro e w' ⟨rfl, rfl⟩
            go_wp2_with fail
            refine (lxy.out _).mono ?_
            rintro e w' ⟨rfl, rfl⟩
            go_wp2_with fail
            refine (lyx.out _).mono ?_
            rintro e w' ⟨rfl, rfl⟩
            go_wp2_with fail
            refine (lxy.out _).mono ?_
            rintro e w' ⟨rfl, rfl⟩
            go_wp2_with fail
            refine (lxy.out _).mono ?_
            rintro e w' ⟨rfl, rfl⟩
            go_wp2_with fail
            refine (weighed_true _).mono ?_
            rintro e w' ⟨rfl, hb⟩
            go_wp2
            go_ret
            exact ⟨rfl, hb⟩
          · have g7 := f7 rfl rfl (Or.inl rfl)
            clear f6 f7 f8
            go_enter Try.func6, Try.ntmps6
            go_wp2_with fail
            refine (lxy.out _).mono ?_
            rintro e w' ⟨rfl, rfl⟩
            go_wp2_with fail
            refine (lxx.out _).mono ?_
            rintro e w' ⟨rfl, rfl⟩
            go_wp2_with fail
            refine (lxy.out _).mono ?_
            rintro e w' ⟨rfl, rfl⟩
            go_wp2_with fail
            refine (lyx.out _).mono ?_
            rintro e w' ⟨rfl, rfl⟩
            go_wp2_with fail
            refine (lxy.out _).mono ?_
            rintro e w' ⟨rfl, rfl⟩
            go_wp2_with fail
            refine (lxy.out _).mono ?_
            rintro e w' ⟨rfl, rfl⟩
            go_wp2_with fail
            refine (weighed_true _).mono ?_
            rintro e w' ⟨rfl, hb⟩
            go_wp2
            go_ret
            exact ⟨rfl, hb⟩
        · cases zy
          · have g7 := f7 rfl rfl (Or.inr rfl)
            clear f6 f7 f8
            go_enter Try.func6, Try.ntmps6
            go_wp2_with fail
            refine (lxy.out _).mono ?_
            rintro e w' ⟨rfl, rfl⟩
            go_wp2_with fail
            refine (lxx.out _).mono ?_
            rintro e w' ⟨rfl, rfl⟩
            go_wp2_with fail
            refine (lxy.out _).mono ?_
            rintro e w' ⟨rfl, rfl⟩
            go_wp2_with fail
            refine (lyx.out _).mono ?_
            rintro e w' ⟨rfl, rfl⟩
            go_wp2_with fail
            refine (lxy.out _).mono ?_
            rintro e w' ⟨rfl, rfl⟩
            go_wp2_with fail
            refine (lxy.out _).mono ?_
            rintro e w' ⟨rfl, rfl⟩
            go_wp2_with fail
            refine (weighed_true _).mono ?_
            rintro e w' ⟨rfl, hb⟩
            go_wp2
            go_ret
            exact ⟨rfl, hb⟩
          · have g6 := f6 rfl rfl rfl rfl
            clear f6 f7 f8
            go_enter Try.func6, Try.ntmps6
            go_wp2_with fail
            refine (lxy.out _).mono ?_
            rintro e w' ⟨rfl, rfl⟩
            go_wp2_with fail
            refine (lxx.out _).mono ?_
            rintro e w' ⟨rfl, rfl⟩
            go_wp2_with fail
            refine (lxy.out _).mono ?_
            rintro e w' ⟨rfl, rfl⟩
            go_wp2_with fail
            refine (lyx.out _).mono ?_
            rintro e w' ⟨rfl, rfl⟩
            go_wp2_with fail
            refine (lxy.out _).mono ?_
            rintro e w' ⟨rfl, rfl⟩
            go_wp2_with fail
            refine (weighed_true _).mono ?_
            rintro e w' ⟨rfl, hb⟩
            go_wp2
            go_ret
            exact ⟨rfl, hb⟩
      · have g5 := f5 rfl rfl
        clear f5 f6 f7 f8
        go_enter Try.func6, Try.ntmps6
        go_wp2_with fail
        refine (lxy.out _).mono ?_
        rintro e w' ⟨rfl, rfl⟩
        go_wp2_with fail
        refine (lxx.out _).mono ?_
        rintro e w' ⟨rfl, rfl⟩
        go_wp2_with fail
        refine (lxy.out _).mono ?_
        rintro e w' ⟨rfl, rfl⟩
        go_wp2_with fail
        refine (lyx.out _).mono ?_
        rintro e w' ⟨rfl, rfl⟩
        go_wp2_with fail
        refine (lxy.out _).mono ?_
        rintro e w' ⟨rfl, rfl⟩
        go_wp2_with fail
        refine (weighed_true _).mono ?_
        rintro e w' ⟨rfl, hb⟩
        go_wp2
        go_ret
        exact ⟨rfl, hb⟩
    · have g3 := f3 rfl
      subst g3
      cases ny
      · have g4 := f4 rfl rfl
        clear f3 f4 f5 f6 f7 f8
        go_enter Try.func6, Try.ntmps6
        go_wp2_with fail
        refine (lxy.out _).mono ?_
        rintro e w' ⟨rfl, rfl⟩
        go_wp2_with fail
        refine (lxx.out _).mono ?_
        rintro e w' ⟨rfl, rfl⟩
        go_wp2_with fail
        refine (lxy.out _).mono ?_
        rintro e w' ⟨rfl, rfl⟩
        go_wp2_with fail
        refine (lyx.out _).mono ?_
        rintro e w' ⟨rfl, rfl⟩
        go_wp2_with fail
        refine (lxy.out _).mono ?_
        rintro e w' ⟨rfl, rfl⟩
        go_wp2_with fail
        refine (cx.out _).mono ?_
        rintro e w' ⟨rfl, rfl⟩
        go_wp2_with fail
        refine (weighed_true _).mono ?_
        rintro e w' ⟨rfl, hb⟩
        go_wp2
        go_ret
        exact ⟨rfl, hb⟩
      · clear f3 f4 f5 f6 f7 f8
        go_enter Try.func6, Try.ntmps6
        go_wp2_with fail
        refine (lxy.out _).mono ?_
        rintro e w' ⟨rfl, rfl⟩
        go_wp2_with fail
        refine (lxx.out _).mono ?_
        rintro e w' ⟨rfl, rfl⟩
        go_wp2_with fail
        refine (lxy.out _).mono ?_
        rintro e w' ⟨rfl, rfl⟩
        go_wp2_with fail
        refine (lyx.out _).mono ?_
        rintro e w' ⟨rfl, rfl⟩
        go_wp2_with fail
        refine (cx.out _).mono ?_
        rintro e w' ⟨rfl, rfl⟩
        go_wp2_with fail
        refine (weighed_true _).mono ?_
        rintro e w' ⟨rfl, hb⟩
        go_wp2
        go_ret
        exact ⟨rfl, hb⟩
  · clear f1
    clear f2
    cases nx
    · clear f3 f4
      cases ny
      · clear f5
        cases zx
        · cases zy
          · have g7 := f7 rfl rfl (Or.inl rfl)
            clear f6 f7 f8
            go_enter Try.func6, Try.ntmps6
            go_wp2_with fail
            refine (lxy.out _).mono ?_
            rintro e w' ⟨rfl, rfl⟩
            go_wp2_with fail
            refine (lxx.out _).mono ?_
            rintro e w' ⟨rfl, rfl⟩
            go_wp2_with fail
            refine (lxy.out _).mono ?_
            rintro e w' ⟨rfl, rfl⟩
            go_wp2_with fail
            refine (lyx.out _).mono ?_
            rintro e w' ⟨rfl, rfl⟩
            go_wp2_with fail
            refine (lxy.out _).mono ?_
            rintro e w' ⟨rfl, rfl⟩
            go_wp2_with fail
            refine (lxy.out _).mono ?_
            rintro e w' ⟨rfl, rfl⟩
            go_wp2_with fail
            refine (weighed_true _).mono ?_
            rintro e w' ⟨rfl, hb⟩
            go_wp2
            go_ret
            exact ⟨rfl, hb⟩
          · have g7 := f7 rfl rfl (Or.inl rfl)
            clear f6 f7 f8
            go_enter Try.func6, Try.ntmps6
            go_wp2_with fail
            refine (lxy.out _).mono ?_
            rintro e w' ⟨rfl, rfl⟩
            go_wp2_with fail
            refine (lxx.out _).mono ?_
            rintro e w' ⟨rfl, rfl⟩
            go_wp2_with fail
            refine (lxy.out _).mono ?_
            rintro e w' ⟨rfl, rfl⟩
            go_wp2_with fail
            refine (lyx.out _).mono ?_
            rintro e w' ⟨rfl, rfl⟩
            go_wp2_with fail
            refine (lxy.out _).mono ?_
            rintro e w' ⟨rfl, rfl⟩
            go_wp2_with fail
            refine (lxy.out _).mono ?_
            rintro e w' ⟨rfl, rfl⟩
            go_wp2_with fail
            refine (weighed_true _).mono ?_
            rintro e w' ⟨rfl, hb⟩
            go_wp2
            go_ret
            exact ⟨rfl, hb⟩
        · cases zy
          · have g7 := f7 rfl rfl (Or.inr rfl)
            clear f6 f7 f8
            go_enter Try.func6, Try.ntmps6
            go_wp2_with fail
            refine (lxy.out _).mono ?_
            rintro e w' ⟨rfl, rfl⟩
            go_wp2_with fail
            refine (lxx.out _).mono ?_
            rintro e w' ⟨rfl, rfl⟩
            go_wp2_with fail
            refine (lxy.out _).mono ?_
            rintro e w' ⟨rfl, rfl⟩
            go_wp2_with fail
            refine (lyx.out _).mono ?_
            rintro e w' ⟨rfl, rfl⟩
            go_wp2_with fail
            refine (lxy.out _).mono ?_
            rintro e w' ⟨rfl, rfl⟩
            go_wp2_with fail
            refine (lxy.out _).mono ?_
            rintro e w' ⟨rfl, rfl⟩
            go_wp2_with fail
            refine (weighed_true _).mono ?_
            rintro e w' ⟨rfl, hb⟩
            go_wp2
            go_ret
            exact ⟨rfl, hb⟩
          · have g6 := f6 rfl rfl rfl rfl
            clear f6 f7 f8
            go_enter Try.func6, Try.ntmps6
            go_wp2_with fail
            refine (lxy.out _).mono ?_
            rintro e w' ⟨rfl, rfl⟩
            go_wp2_with fail
            refine (lxx.out _).mono ?_
            rintro e w' ⟨rfl, rfl⟩
            go_wp2_with fail
            refine (lxy.out _).mono ?_
            rintro e w' ⟨rfl, rfl⟩
            go_wp2_with fail
            refine (lyx.out _).mono ?_
            rintro e w' ⟨rfl, rfl⟩
            go_wp2_with fail
            refine (lxy.out _).mono ?_
            rintro e w' ⟨rfl, rfl⟩
            go_wp2_with fail
            refine (weighed_true _).mono ?_
            rintro e w' ⟨rfl, hb⟩
            go_wp2
            go_ret
            exact ⟨rfl, hb⟩
      · have g5 := f5 rfl rfl
        clear f5 f6 f7 f8
        go_enter Try.func6, Try.ntmps6
        go_wp2_with fail
        refine (lxy.out _).mono ?_
        rintro e w' ⟨rfl, rfl⟩
        go_wp2_with fail
        refine (lxx.out _).mono ?_
        rintro e w' ⟨rfl, rfl⟩
        go_wp2_with fail
        refine (lxy.out _).mono ?_
        rintro e w' ⟨rfl, rfl⟩
        go_wp2_with fail
        refine (lyx.out _).mono ?_
        rintro e w' ⟨rfl, rfl⟩
        go_wp2_with fail
        refine (lxy.out _).mono ?_
        rintro e w' ⟨rfl, rfl⟩
        go_wp2_with fail
        refine (weighed_true _).mono ?_
        rintro e w' ⟨rfl, hb⟩
        go_wp2
        go_ret
        exact ⟨rfl, hb⟩
    · have g3 := f3 rfl
      subst g3
      cases ny
      · have g4 := f4 rfl rfl
        clear f3 f4 f5 f6 f7 f8
        go_enter Try.func6, Try.ntmps6
        go_wp2_with fail
        refine (lxy.out _).mono ?_
        rintro e w' ⟨rfl, rfl⟩
        go_wp2_with fail
        refine (lxx.out _).mono ?_
        rintro e w' ⟨rfl, rfl⟩
        go_wp2_with fail
        refine (lxy.out _).mono ?_
        rintro e w' ⟨rfl, rfl⟩
        go_wp2_with fail
        refine (lyx.out _).mono ?_
        rintro e w' ⟨rfl, rfl⟩
        go_wp2_with fail
        refine (lxy.out _).mono ?_
        rintro e w' ⟨rfl, rfl⟩
        go_wp2_with fail
        refine (cx.out _).mono ?_
        rintro e w' ⟨rfl, rfl⟩
        go_wp2_with fail
        refine (weighed_true _).mono ?_
        rintro e w' ⟨rfl, hb⟩
        go_wp2
        go_ret
        exact ⟨rfl, hb⟩
      · clear f3 f4 f5 f6 f7 f8
        go_enter Try.func6, Try.ntmps6
        go_wp2_with fail
        refine (lxy.out _).mono ?_
        rintro e w' ⟨rfl, rfl⟩
        go_wp2_with fail
        refine (lxx.out _).mono ?_
        rintro e w' ⟨rfl, rfl⟩
        go_wp2_with fail
        refine (lxy.out _).mono ?_
        rintro e w' ⟨rfl, rfl⟩
        go_wp2_with fail
        refine (lyx.out _).mono ?_
        rintro e w' ⟨rfl, rfl⟩
        go_wp2_with fail
        refine (cx.out _).mono ?_
        rintro e w' ⟨rfl, rfl⟩
        go_wp2_with fail
        refine (weighed_true _).mono ?_
        rintro e w' ⟨rfl, hb⟩
        go_wp2
        go_ret
        exact ⟨rfl, hb⟩
  · clear f1
    clear f2
    cases nx
    · clear f3 f4
      cases ny
      · clear f5
        cases zx
        · cases zy
          · have g7 := f7 rfl rfl (Or.inl rfl)
            have g8 := f8 rfl rfl rfl
            clear f6 f7 f8
            go_enter Try.func6, Try.ntmps6
            go_wp2_with fail
            refine (lxy.out _).mono ?_
            rintro e w' ⟨rfl, rfl⟩
            go_wp2_with fail
            refine (lyx.out _).mono ?_
            rintro e w' ⟨rfl, rfl⟩
            go_wp2_with fail
            refine (lxx.out _).mono ?_
            rintro e w' ⟨rfl, rfl⟩
            go_wp2_with fail
            refine (lxy.out _).mono ?_
            rintro e w' ⟨rfl, rfl⟩
            go_wp2_with fail
            refine (lxy.out _).mono ?_
            rintro e w' ⟨rfl, rfl⟩
            go_wp2_with fail
            refine (lxy.out _).mono ?_
            rintro e w' ⟨rfl, rfl⟩
            go_wp2_with fail
            refine (cx.out _).mono ?_
            rintro e w' ⟨rfl, rfl⟩
            go_wp2_with fail
            refine (cy.out _).mono ?_
            rintro e w' ⟨rfl, rfl⟩
            go_wp2_with fail
            refine (weighed_true _).mono ?_
            rintro e w' ⟨rfl, hb⟩
            go_wp2
            go_ret
            exact ⟨rfl, hb⟩
          · have g7 := f7 rfl rfl (Or.inl rfl)
            have g8 := f8 rfl rfl rfl
            clear f6 f7 f8
            go_enter Try.func6, Try.ntmps6
            go_wp2_with fail
            refine (lxy.out _).mono ?_
            rintro e w' ⟨rfl, rfl⟩
            go_wp2_with fail
            refine (lyx.out _).mono ?_
            rintro e w' ⟨rfl, rfl⟩
            go_wp2_with fail
            refine (lxx.out _).mono ?_
            rintro e w' ⟨rfl, rfl⟩
            go_wp2_with fail
            refine (lxy.out _).mono ?_
            rintro e w' ⟨rfl, rfl⟩
            go_wp2_with fail
            refine (lxy.out _).mono ?_
            rintro e w' ⟨rfl, rfl⟩
            go_wp2_with fail
            refine (lxy.out _).mono ?_
            rintro e w' ⟨rfl, rfl⟩
            go_wp2_with fail
            refine (cx.out _).mono ?_
            rintro e w' ⟨rfl, rfl⟩
            go_wp2_with fail
            refine (cy.out _).mono ?_
            rintro e w' ⟨rfl, rfl⟩
            go_wp2_with fail
            refine (weighed_true _).mono ?_
            rintro e w' ⟨rfl, hb⟩
            go_wp2
            go_ret
            exact ⟨rfl, hb⟩
        · cases zy
          · have g7 := f7 rfl rfl (Or.inr rfl)
            have g8 := f8 rfl rfl rfl
            clear f6 f7 f8
            go_enter Try.func6, Try.ntmps6
            go_wp2_with fail
            refine (lxy.out _).mono ?_
            rintro e w' ⟨rfl, rfl⟩
            go_wp2_with fail
            refine (lyx.out _).mono ?_
            rintro e w' ⟨rfl, rfl⟩
            go_wp2_with fail
            refine (lxx.out _).mono ?_
            rintro e w' ⟨rfl, rfl⟩
            go_wp2_with fail
            refine (lxy.out _).mono ?_
            rintro e w' ⟨rfl, rfl⟩
            go_wp2_with fail
            refine (lxy.out _).mono ?_
            rintro e w' ⟨rfl, rfl⟩
            go_wp2_with fail
            refine (lxy.out _).mono ?_
            rintro e w' ⟨rfl, rfl⟩
            go_wp2_with fail
            refine (cx.out _).mono ?_
            rintro e w' ⟨rfl, rfl⟩
            go_wp2_with fail
            refine (cy.out _).mono ?_
            rintro e w' ⟨rfl, rfl⟩
            go_wp2_with fail
            refine (weighed_true _).mono ?_
            rintro e w' ⟨rfl, hb⟩
            go_wp2
            go_ret
            exact ⟨rfl, hb⟩
          · have g6 := f6 rfl rfl rfl rfl
            clear f6 f7 f8
            go_enter Try.func6, Try.ntmps6
            go_wp2_with fail
            refine (lxy.out _).mono ?_
            rintro e w' ⟨rfl, rfl⟩
            go_wp2_with fail
            refine (lyx.out _).mono ?_
            rintro e w' ⟨rfl, rfl⟩
            go_wp2_with fail
            refine (lxx.out _).mono ?_
            rintro e w' ⟨rfl, rfl⟩
            go_wp2_with fail
            refine (lxy.out _).mono ?_
            rintro e w' ⟨rfl, rfl⟩
            go_wp2_with fail
            refine (lxy.out _).mono ?_
            rintro e w' ⟨rfl, rfl⟩
            go_wp2_with fail
            refine (weighed_true _).mono ?_
            rintro e w' ⟨rfl, hb⟩
            go_wp2
            go_ret
            exact ⟨rfl, hb⟩
      · have g5 := f5 rfl rfl
        clear f5 f6 f7 f8
        go_enter Try.func6, Try.ntmps6
        go_wp2_with fail
        refine (lxy.out _).mono ?_
        rintro e w' ⟨rfl, rfl⟩
        go_wp2_with fail
        refine (lyx.out _).mono ?_
        rintro e w' ⟨rfl, rfl⟩
        go_wp2_with fail
        refine (lxx.out _).mono ?_
        rintro e w' ⟨rfl, rfl⟩
        go_wp2_with fail
        refine (lxy.out _).mono ?_
        rintro e w' ⟨rfl, rfl⟩
        go_wp2_with fail
        refine (lxy.out _).mono ?_
        rintro e w' ⟨rfl, rfl⟩
        go_wp2_with fail
        refine (weighed_true _).mono ?_
        rintro e w' ⟨rfl, hb⟩
        go_wp2
        go_ret
        exact ⟨rfl, hb⟩
    · have g3 := f3 rfl
      subst g3
      cases ny
      · have g4 := f4 rfl rfl
        clear f3 f4 f5 f6 f7 f8
        go_enter Try.func6, Try.ntmps6
        go_wp2_with fail
        refine (lxy.out _).mono ?_
        rintro e w' ⟨rfl, rfl⟩
        go_wp2_with fail
        refine (lyx.out _).mono ?_
        rintro e w' ⟨rfl, rfl⟩
        go_wp2_with fail
        refine (lxx.out _).mono ?_
        rintro e w' ⟨rfl, rfl⟩
        go_wp2_with fail
        refine (lxy.out _).mono ?_
        rintro e w' ⟨rfl, rfl⟩
        go_wp2_with fail
        refine (lxy.out _).mono ?_
        rintro e w' ⟨rfl, rfl⟩
        go_wp2_with fail
        refine (cx.out _).mono ?_
        rintro e w' ⟨rfl, rfl⟩
        go_wp2_with fail
        refine (weighed_true _).mono ?_
        rintro e w' ⟨rfl, hb⟩
        go_wp2
        go_ret
        exact ⟨rfl, hb⟩
      · clear f3 f4 f5 f6 f7 f8
        go_enter Try.func6, Try.ntmps6
        go_wp2_with fail
        refine (lxy.out _).mono ?_
        rintro e w' ⟨rfl, rfl⟩
        go_wp2_with fail
        refine (lyx.out _).mono ?_
        rintro e w' ⟨rfl, rfl⟩
        go_wp2_with fail
        refine (lxx.out _).mono ?_
        rintro e w' ⟨rfl, rfl⟩
        go_wp2_with fail
        refine (lxy.out _).mono ?_
        rintro e w' ⟨rfl, rfl⟩
        go_wp2_with fail
        refine (cx.out _).mono ?_
        rintro e w' ⟨rfl, rfl⟩
        go_wp2_with fail
        refine (weighed_true _).mono ?_
        rintro e w' ⟨rfl, hb⟩
        go_wp2
        go_ret
        exact ⟨rfl, hb⟩
  · exact absurd f1 (by decide)
end Go.Proofs.Ytlabddbpjdndoaa.weightsOrderW

/- Probes and Pages: the program's. -/
import Derived.Test.YtdhkfkkpddpcaaaRatesMath
import Derived.Test.YtdhkfkkpddpcaaaFloatOrd
import Derived.Test.YtdhkfkkpddpcaaaFloatFrom
import Derived.WalkMore
namespace Go.Proofs.Ytdhkfkkpddpcaaa
open Go.RowKit
set_option linter.unusedVariables false

theorem isnan_f (b : Nat) (w : World) (hb : b < 18446744073709551616) :
    Calls Try.prog 12 #[.float .f64 b] w fun e w' => e = .returned (.bool (nanB b)) ∧ w = w' := by
  have o1 : (FloatKind.f64.format.order b b != some Ordering.eq) = nanB b := by rw [f_ne, f_self hb]; cases nanB b <;> rfl
  generalize nanB b = n at *
  clear hb
  go_enter Try.func12, Try.ntmps12
  go_wp2
  go_ret
  exact ⟨rfl, rfl⟩

/-- A half that is held against a rate. -/
theorem half_le {b : Nat} (hb : b < 18446744073709551616) (hn : nanB b = false) (k : Nat) :
    (FloatKind.f64.format.order (hw k) b == some Ordering.lt || FloatKind.f64.format.order (hw k) b == some Ordering.eq) = decide ((hw k : Int) ≤ sr b) := by
  rw [f_le (hw_word k) hb, hn, hw_nan, hw_sr]
  rfl
theorem half_run (t : TypeId) (k : Nat) (hk : k < 17) (w : World) : (binOp .quo t (.float .f64 (hw k)) (.float .f64 4611686018427387904)).run Try.prog w = .ok (.float .f64 (hw (k + 1))) w :=
  run_float_arith w .quo t .f64 _ _ _ (halved k hk)

set_option maxHeartbeats 1000000 in
theorem probes_num (b : Nat) (w : World) (hb : b < 18446744073709551616) (hn : nanB b = false) :
    Calls Try.prog 7 #[.float .f64 b] w fun e w' => ∃ n : Nat, e = .returned (.int .i64 n) ∧ LeastHalf (sr b) n ∧ w = w' := by
  have h1 := Lib.hid (fun w => isnan_f b w hb)
  have h2 := Lib.hid (half_le hb hn)
  rw [hn] at h1
  clear hb hn
  generalize sr b = s at *
  go_enter Try.func7, Try.ntmps7
  go_wp2_with fail
  go_step3
  go_wp2_with fail
  refine (h1.out _).mono ?_
  rintro e w' ⟨rfl, rfl⟩
  go_wp2
  go_step3
  go_wp2
  go_loopw [3, 4] (fun p h wr => ∃ k : Nat, 1 ≤ k ∧ k ≤ 16 ∧ p = .int .i64 k ∧ h = .float .f64 (hw k) ∧ (∀ j, 1 ≤ j → j < k → s < hw j) ∧ wr = w) (fun p _ _ => 17 - (intOf p).toNat)
  case atStart => exact ⟨1, by omega, by omega, rfl, by rw [hw_one], fun j _ _ => by omega, rfl⟩
  case round =>
    obtain ⟨k, k1, k2, rfl, rfl, hall, rfl⟩ := hrel
    by_cases hlt : k < 16
    · have s1 : (k : Int) < 16 := by omega
      have o1 := h2.out k
      have H := Lib.hid (half_run 23 k (by omega) wr)
      have Hall := Lib.hid hall
      clear hall
      obtain ⟨d, hd⟩ : ∃ d, decide ((hw k : Int) ≤ s) = d := ⟨_, rfl⟩
      rw [hd] at o1
      have Hd := Lib.hid hd
      clear hd
      have hx := H.out
      cases d
      · have G := Lib.hid (show hw (k + 1) = hw (k + 1) from rfl)
        obtain ⟨x, hxk⟩ : ∃ x, x = hw k := ⟨_, rfl⟩
        obtain ⟨y, hyk⟩ : ∃ y, y = hw (k + 1) := ⟨_, rfl⟩
        rw [← hxk, ← hyk] at hx
        rw [← hxk] at o1 ⊢
        have X := Lib.hid hxk
        have Y := Lib.hid hyk
        clear hxk hyk H G
        go_wp2
        go_roundw
        case rel =>
          refine ⟨k + 1, by omega, by omega, by go_num, by rw [Y.out], fun j j1 j2 => ?_, by trivial⟩
          rcases Nat.lt_or_ge j k with c | c
          · exact Hall.out j j1 c
          · obtain rfl : j = k := by omega
            have := of_decide_eq_false Hd.out
            omega
        case measure => simp [intOf]; omega
      · obtain ⟨x, hxk⟩ : ∃ x, x = hw k := ⟨_, rfl⟩
        rw [← hxk] at o1 ⊢
        have X := Lib.hid hxk
        clear hx H hxk
        go_wp2
        (try rw [Exit.noGoto_ret])
        go_ret
        exact ⟨k, rfl, ⟨k1, k2, Hall.out, Or.inr (of_decide_eq_true Hd.out)⟩, rfl⟩
    · obtain rfl : k = 16 := by omega
      have Hall := Lib.hid hall
      clear hall
      generalize hw 16 = x at *
      go_wp2
      (try rw [Exit.noGoto_ret])
      go_ret
      exact ⟨16, rfl, ⟨by omega, by omega, Hall.out, Or.inl rfl⟩, rfl⟩
theorem probes_nan (b : Nat) (w : World) (hb : b < 18446744073709551616) (hn : nanB b = true) :
    Calls Try.prog 7 #[.float .f64 b] w fun e w' => e = .returned (.int .i64 4) ∧ w = w' := by
  have h1 := Lib.hid (fun w => isnan_f b w hb)
  rw [hn] at h1
  clear hb hn
  go_enter Try.func7, Try.ntmps7
  go_wp2_with fail
  go_step3
  go_wp2_with fail
  refine (h1.out _).mono ?_
  rintro e w' ⟨rfl, rfl⟩
  go_wp2
  (try rw [Exit.noGoto_ret])
  go_ret
  exact ⟨rfl, rfl⟩
theorem probes_any (b : Nat) (w : World) (hb : b < 18446744073709551616) :
    Calls Try.prog 7 #[.float .f64 b] w fun e w' => ∃ n : Nat, e = .returned (.int .i64 n) ∧ ProbesOf b n ∧ w = w' := by
  unfold ProbesOf
  cases hn : nanB b
  · refine (probes_num b w hb hn).mono ?_
    rintro e w' ⟨n, he, h, hw⟩
    exact ⟨n, he, by rw [if_neg (by decide)]; exact h, hw⟩
  · refine (probes_nan b w hb hn).mono ?_
    rintro e w' ⟨he, hw⟩
    exact ⟨4, he, by rw [if_pos rfl], hw⟩

theorem within_n (n : Int) (w : World) :
    Calls Try.prog 13 #[.int .i64 n, .int .i64 0, .int .i64 10000] w fun e w' => e = .returned (.int .i64 (cN n : Nat)) ∧ w = w' := by
  have hc : (n < 0 ∧ (cN n : Int) = 0) ∨ (0 ≤ n ∧ 10000 < n ∧ (cN n : Int) = 10000) ∨ (0 ≤ n ∧ n ≤ 10000 ∧ (cN n : Int) = n) := by unfold cN; split; omega; split <;> omega
  rcases hc with ⟨c1, e⟩ | ⟨c1, c2, e⟩ | ⟨c1, c2, e⟩
  all_goals
    rw [e]
    clear e
    go_enter Try.func13, Try.ntmps13
    go_wp2
    go_ret
    exact ⟨rfl, rfl⟩
theorem within_k (n : Int) (w : World) :
    Calls Try.prog 13 #[.int .i64 n, .int .i64 1, .int .i64 16] w fun e w' => e = .returned (.int .i64 (cK n : Nat)) ∧ w = w' := by
  have hc : (n < 1 ∧ (cK n : Int) = 1) ∨ (1 ≤ n ∧ 16 < n ∧ (cK n : Int) = 16) ∨ (1 ≤ n ∧ n ≤ 16 ∧ (cK n : Int) = n) := by unfold cK; split; omega; split <;> omega
  rcases hc with ⟨c1, e⟩ | ⟨c1, c2, e⟩ | ⟨c1, c2, e⟩
  all_goals
    rw [e]
    clear e
    go_enter Try.func13, Try.ntmps13
    go_wp2
    go_ret
    exact ⟨rfl, rfl⟩
theorem pages_any (n k : Int) (w : World) :
    Calls Try.prog 9 #[.int .i64 n, .int .i64 k] w fun e w' => e = .returned (.int .i64 (pagesS n k : Nat)) ∧ w = w' := by
  have h1 := Lib.hid (fun w => within_n n w)
  have h2 := Lib.hid (fun w => within_k k w)
  have b1 := cN_le n
  have b2 := cK_le k
  unfold pagesS
  generalize cN n = a at *
  generalize cK k = b at *
  have hp := prod_le b1 b2
  have hq : (a : Int) * (b : Int) = ((a * b : Nat) : Int) := by simp
  have hc : (480 < a * b * 3 / 2 ∧ pagesN a b = (a * b * 3 / 2 + 479) / 480) ∨ (a * b * 3 / 2 ≤ 480 ∧ pagesN a b = 1) := by unfold pagesN bitsS; split <;> omega
  generalize pagesN a b = r at *
  generalize a * b = p at *
  have s1 : (p : Int) ≤ 160000 := by omega
  have s2 : (p : Int) * 3 ≤ 480000 := by omega
  have s3 : (0 : Int) ≤ (p : Int) * 3 := by omega
  rcases hc with ⟨c1, rfl⟩ | ⟨c1, rfl⟩
  all_goals
    go_enter Try.func9, Try.ntmps9
    go_wp2_with fail
    refine (h1.out _).mono ?_
    rintro e w' ⟨rfl, rfl⟩
    go_wp2_with fail
    refine (h2.out _).mono ?_
    rintro e w' ⟨rfl, rfl⟩
    go_wp2
    go_ret
    exact ⟨ret_int (by omega), rfl⟩
end Go.Proofs.Ytdhkfkkpddpcaaa

/- Probes and Pages: the document's. -/
import Derived.Test.YtdhkfkkpddpcaaaRatesMath
import Derived.Test.YtdhkfkkpddpcaaaFloatOrd
import Derived.Test.YtdhkfkkpddpcaaaFloatFrom
import Derived.WalkMore
import Derived.Deep.DeepCutAuto
namespace Go.Proofs.Ytdhkfkkpddpcaaa
open Go.RowKit
set_option linter.unusedVariables false

theorem half_ref {b : Nat} (hb : b < 18446744073709551616) (hn : nanB b = false) (k : Nat) :
    (FloatKind.f64.format.order (hw k) b == some Ordering.lt || FloatKind.f64.format.order (hw k) b == some Ordering.eq) = decide ((hw k : Int) ≤ sr b) := by
  rw [f_le (hw_word k) hb, hn, hw_nan, hw_sr]
  rfl
theorem mul_run (t : TypeId) (k : Nat) (hk : k < 17) (w : World) : (binOp .mul t (.float .f64 (tw k)) (.float .f64 4611686018427387904)).run Try.prog w = .ok (.float .f64 (tw (k + 1))) w :=
  run_float_arith w .mul t .f64 _ _ _ (doubled k hk)
theorem quo_run (t : TypeId) (k : Nat) (hk : k < 17) (w : World) : (binOp .quo t (.float .f64 4607182418800017408) (.float .f64 (tw k))).run Try.prog w = .ok (.float .f64 (hw k)) w :=
  run_float_arith w .quo t .f64 _ _ _ (turned k hk)

set_option maxHeartbeats 1000000 in
theorem probes_ref_num (b : Nat) (w : World) (hb : b < 18446744073709551616) (hn : nanB b = false) :
    Calls Try.prog 8 #[.float .f64 b] w fun e w' => ∃ n : Nat, e = .returned (.int .i64 n) ∧ LeastHalf (sr b) n ∧ w = w' := by
  have o0 : (FloatKind.f64.format.order b b != some Ordering.eq) = false := by rw [f_ne, f_self hb, hn]; rfl
  have h2 := Lib.hid (half_ref hb hn)
  clear hb hn
  generalize sr b = s at *
  go_enter Try.func8, Try.ntmps8
  go_wp2
  go_loopw [3, 4] (fun h p wr => ∃ k : Nat, 1 ≤ k ∧ k ≤ 17 ∧ p = .int .i64 k ∧ h = .float .f64 (tw (k - 1)) ∧ (∀ j, 1 ≤ j → j < k → s < hw j) ∧ wr = w) (fun _ p _ => 18 - (intOf p).toNat)
  case atStart => exact ⟨1, by omega, by omega, rfl, by rw [show (1 - 1 : Nat) = 0 from rfl, tw_zero], fun j _ _ => by omega, rfl⟩
  case round =>
    obtain ⟨k, k1, k2, rfl, rfl, hall, rfl⟩ := hrel
    by_cases hlt : k ≤ 16
    · have s1 : (k : Int) ≤ 16 := by omega
      have o1 := h2.out k
      have H1 := mul_run 23 (k - 1) (by omega) wr
      rw [show k - 1 + 1 = k by omega] at H1
      have H2 := quo_run 23 k (by omega) wr
      have Hall := Lib.hid hall
      clear hall
      obtain ⟨d, hd⟩ : ∃ d, decide ((hw k : Int) ≤ s) = d := ⟨_, rfl⟩
      rw [hd] at o1
      have Hd := Lib.hid hd
      clear hd
      obtain ⟨x, hxk⟩ : ∃ x, x = tw (k - 1) := ⟨_, rfl⟩
      obtain ⟨y, hyk⟩ : ∃ y, y = tw k := ⟨_, rfl⟩
      obtain ⟨z, hzk⟩ : ∃ z, z = hw k := ⟨_, rfl⟩
      rw [← hxk, ← hyk] at H1
      rw [← hyk, ← hzk] at H2
      rw [← hzk] at o1
      rw [← hxk]
      have Y := Lib.hid hyk
      clear hxk hyk hzk
      cases d
      · go_wp2
        go_roundw
        case rel =>
          refine ⟨k + 1, by omega, by omega, by go_num, by rw [Y.out]; rfl, fun j j1 j2 => ?_, by trivial⟩
          rcases Nat.lt_or_ge j k with c | c
          · exact Hall.out j j1 c
          · obtain rfl : j = k := by omega
            have := of_decide_eq_false Hd.out
            omega
        case measure => simp [intOf]; omega
      · go_wp2
        go_ret
        exact ⟨k, rfl, ⟨k1, hlt, Hall.out, Or.inr (of_decide_eq_true Hd.out)⟩, rfl⟩
    · obtain rfl : k = 17 := by omega
      have Hall := Lib.hid hall
      clear hall
      generalize tw (17 - 1) = x at *
      go_wp2
      go_ret
      exact ⟨16, rfl, ⟨by omega, by omega, fun j j1 j2 => Hall.out j j1 (by omega), Or.inl rfl⟩, rfl⟩
theorem probes_ref_nan (b : Nat) (w : World) (hb : b < 18446744073709551616) (hn : nanB b = true) :
    Calls Try.prog 8 #[.float .f64 b] w fun e w' => e = .returned (.int .i64 4) ∧ w = w' := by
  have o0 : (FloatKind.f64.format.order b b != some Ordering.eq) = true := by rw [f_ne, f_self hb, hn]; rfl
  clear hb hn
  go_enter Try.func8, Try.ntmps8
  go_wp2
  go_ret
  exact ⟨rfl, rfl⟩
theorem probes_ref (b : Nat) (w : World) (hb : b < 18446744073709551616) :
    Calls Try.prog 8 #[.float .f64 b] w fun e w' => ∃ n : Nat, e = .returned (.int .i64 n) ∧ ProbesOf b n ∧ w = w' := by
  unfold ProbesOf
  cases hn : nanB b
  · refine (probes_ref_num b w hb hn).mono ?_
    rintro e w' ⟨n, he, h, hw⟩
    exact ⟨n, he, by rw [if_neg (by decide)]; exact h, hw⟩
  · refine (probes_ref_nan b w hb hn).mono ?_
    rintro e w' ⟨he, hw⟩
    exact ⟨4, he, by rw [if_pos rfl], hw⟩

set_option maxHeartbeats 1000000 in
theorem pages_ref (n k : Int) (w : World) :
    Calls Try.prog 10 #[.int .i64 n, .int .i64 k] w fun e w' => e = .returned (.int .i64 (pagesS n k : Nat)) ∧ w = w' := by
  have b1 := cN_le n
  have b2 := cK_le k
  have hn : (n < 0 ∧ 0 = cN n) ∨ (0 ≤ n ∧ 10000 < n ∧ 10000 = cN n) ∨ (0 ≤ n ∧ n ≤ 10000 ∧ n = ((cN n : Nat) : Int)) := by unfold cN; split; omega; split <;> omega
  have hk : (k < 1 ∧ 1 = cK k) ∨ (1 ≤ k ∧ 16 < k ∧ 16 = cK k) ∨ (1 ≤ k ∧ k ≤ 16 ∧ k = ((cK k : Nat) : Int)) := by unfold cK; split; omega; split <;> omega
  unfold pagesS
  generalize cN n = a at *
  generalize cK k = b at *
  have hp := prod_le b1 b2
  have hr : 1 ≤ pagesN a b ∧ a * b * 3 / 2 ≤ pagesN a b * 480 ∧ (pagesN a b = 1 ∨ (pagesN a b - 1) * 480 < a * b * 3 / 2) := by
    have := pagesN_room a b
    unfold bitsS at this
    refine ⟨?_, this⟩
    unfold pagesN bitsS
    generalize a * b = p at *
    split <;> omega
  have hq : (a : Int) * (b : Int) = ((a * b : Nat) : Int) := by simp
  generalize pagesN a b = r at *
  generalize a * b = p at *
  have s1 : (p : Int) ≤ 160000 := by omega
  have s2 : (p : Int) * 3 ≤ 480000 := by omega
  have s3 : (0 : Int) ≤ (p : Int) * 3 := by omega
  obtain ⟨r1, r2, r3⟩ := hr
  have R2 := Lib.hid r2
  have R3 := Lib.hid r3
  have hp' := Lib.hid hp
  clear r2 r3 hp
  go_enter Try.func10, Try.ntmps10
  have hna : ∀ x y : Int, (n < 0 ∧ x = 0 ∨ 0 ≤ n ∧ x = n) → (10000 < x ∧ y = 10000 ∨ x ≤ 10000 ∧ y = x) → y = ((a : Nat) : Int) := by omega
  have hkb : ∀ x y : Int, (k < 1 ∧ x = 1 ∨ 1 ≤ k ∧ x = k) → (16 < x ∧ y = 16 ∨ x ≤ 16 ∧ y = x) → y = ((b : Nat) : Int) := by omega
  have HN := Lib.hid hna
  have HK := Lib.hid hkb
  clear hn hk hna hkb b1 b2
  go_upto_if 7 with fail
  go_cut [0] (fun u wx => ∃ x : Int, u = .int .i64 x ∧ (n < 0 ∧ x = 0 ∨ 0 ≤ n ∧ x = n) ∧ wx = w)
  case first =>
    clear HN HK R2 R3 hp' s1 s2 s3 hq r1
    go_wp2_with fail
    all_goals
      go_meet
      exact ⟨_, rfl, by omega, rfl⟩
  case rest =>
    obtain ⟨x, rfl, hx, rfl⟩ := hcut
    have HX := Lib.hid hx
    clear hx
    go_upto_if 9 with fail
    go_cut [0] (fun u wx => ∃ y : Int, u = .int .i64 y ∧ (10000 < x ∧ y = 10000 ∨ x ≤ 10000 ∧ y = x) ∧ wx = wc)
    case first =>
      clear HN HK R2 R3 hp' s1 s2 s3 hq r1
      go_wp2_with fail
      all_goals
        go_meet
        exact ⟨_, rfl, by omega, rfl⟩
    case rest =>
      obtain ⟨y, rfl, hy, rfl⟩ := hcut
      obtain rfl := HN.out x y HX.out hy
      clear hy HX HN
      go_upto_if 11 with fail
      go_cut [1] (fun u wx => ∃ x : Int, u = .int .i64 x ∧ (k < 1 ∧ x = 1 ∨ 1 ≤ k ∧ x = k) ∧ wx = wc)
      case first =>
        clear HK R2 R3 hp' s1 s2 s3 hq r1
        go_wp2_with fail
        all_goals
          go_meet
          exact ⟨_, rfl, by omega, rfl⟩
      case rest =>
        obtain ⟨x, rfl, hx, rfl⟩ := hcut
        have HX := Lib.hid hx
        clear hx
        go_upto_if 13 with fail
        go_cut [1] (fun u wx => ∃ y : Int, u = .int .i64 y ∧ (16 < x ∧ y = 16 ∨ x ≤ 16 ∧ y = x) ∧ wx = wc)
        case first =>
          clear HK R2 R3 hp' s1 s2 s3 hq r1
          go_wp2_with fail
          all_goals
            go_meet
            exact ⟨_, rfl, by omega, rfl⟩
        case rest =>
          obtain ⟨y, rfl, hy, rfl⟩ := hcut
          obtain rfl := HK.out x y HX.out hy
          clear hy HX HK
          go_wp2
          go_loopw [5] (fun u wr => ∃ m : Nat, 1 ≤ m ∧ m ≤ r ∧ u = .int .i64 m ∧ wr = wc) (fun u _ => 1000 - (intOf u).toNat)
          case atStart => exact ⟨1, Nat.le_refl _, r1, rfl, rfl⟩
          case round =>
            obtain ⟨m, m1, m2, rfl, rfl⟩ := hrel
            have hbd : r ≤ 500 := by have := R3.out; have := hp'.out; omega
            by_cases hlt : m < r
            · have t1 : (m : Int) * 8 * 60 < (p : Int) * 3 / 2 := by have := R3.out; omega
              go_wp2
              go_roundw
              case rel => exact ⟨m + 1, by omega, by omega, by go_num, by trivial⟩
              case measure => simp [intOf]; omega
            · obtain rfl : m = r := by omega
              have t1 : ¬ (m : Int) * 8 * 60 < (p : Int) * 3 / 2 := by have := R2.out; omega
              go_wp2
              go_ret
              exact ⟨rfl, rfl⟩
end Go.Proofs.Ytdhkfkkpddpcaaa

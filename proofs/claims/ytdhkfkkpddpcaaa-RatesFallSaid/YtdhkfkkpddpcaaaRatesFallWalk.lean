/- The walk of annalistlaw05.RatesFall. -/
import Derived.Test.YtdhkfkkpddpcaaaRated
namespace Go.Proofs.Ytdhkfkkpddpcaaa.ratesFallW
open Go.RowKit
set_option linter.unusedVariables false

theorem falls {x y m n : Nat} (hm : ProbesOf x m) (hn : ProbesOf y n) (h : (!nanB x && !nanB y && decide (sr x ≤ sr y)) = true) : n ≤ m := by
  unfold ProbesOf at hm hn
  cases p : nanB x <;> cases q : nanB y <;> rw [p, q] at h <;> simp at h
  rw [p, if_neg (by decide)] at hm
  rw [q, if_neg (by decide)] at hn
  exact hm.le hn h

set_option maxHeartbeats 1000000 in
/-- Behind the first test, with a rate that is a number. -/
theorem walk (a0 a1 : Int) (w0 : (Lit.int .u64 a0).wf = true) (w1 : (Lit.int .u64 a1).wf = true) (w : World) :
    Calls Try.prog 4 #[.int .u64 a0, .int .u64 a1] w fun e w' => e = .returned (.bool true) ∧ Below w.heap.size w w' := by
  obtain ⟨x, rfl, hx⟩ := u64_nat w0
  obtain ⟨y, rfl, hy⟩ := u64_nat w1
  have hf := fun (b : Nat) w => frombits_run b w
  have k1 := Lib.hid (fun w => probes_any x w hx)
  have k2 := Lib.hid (fun w => probes_any y w hy)
  have p1 := f_le hx hy
  have p2 := f_le hy hx
  have o3 : (FloatKind.f64.format.order x x != some Ordering.eq) = nanB x := by rw [f_ne, f_self hx]; cases nanB x <;> rfl
  have HL := Lib.hid (fun (hn : nanB x = false) k => half_le hx hn k)
  obtain ⟨c1, q1⟩ : ∃ c, (FloatKind.f64.format.order x y == some Ordering.lt || FloatKind.f64.format.order x y == some Ordering.eq) = c := ⟨_, rfl⟩
  obtain ⟨c2, q2⟩ : ∃ c, (FloatKind.f64.format.order y x == some Ordering.lt || FloatKind.f64.format.order y x == some Ordering.eq) = c := ⟨_, rfl⟩
  have F1 := Lib.hid (show ∀ m n, ProbesOf x m → ProbesOf y n → c1 = true → n ≤ m from fun m n hm hn h => falls hm hn (by rw [← p1, q1]; exact h))
  have F2 := Lib.hid (show ∀ m n, ProbesOf x m → ProbesOf y n → c2 = true → m ≤ n from fun m n hm hn h => falls hn hm (by rw [← p2, q2]; exact h))
  clear p1 p2 hx hy w0 w1
  go_enter Try.func4, Try.ntmps4
  go_wp2_with fail
  refine (k1.out _).mono ?_
  rintro e w' ⟨m, rfl, hm, rfl⟩
  have HM := Lib.hid hm
  obtain ⟨m1, m2⟩ := hm.bounds
  clear hm
  go_wp2_with fail
  refine (k2.out _).mono ?_
  rintro e w' ⟨n, rfl, hn, rfl⟩
  obtain ⟨n1, n2⟩ := hn.bounds
  have G1 := F1.out m n HM.out hn
  have G2 := F2.out m n HM.out hn
  clear hn k1 k2 F1 F2
  have s1 : ¬ (m : Int) < 1 := by omega
  have s2 : ¬ (16 : Int) < (m : Int) := by omega
  have s3 : ¬ (n : Int) < 1 := by omega
  have s4 : ¬ (16 : Int) < (n : Int) := by omega
  have hm2 : (nanB x = true ∧ m = 4) ∨ (nanB x = false ∧ LeastHalf (sr x) m) := by
    have h := HM.out
    unfold ProbesOf at h
    cases p : nanB x
    · rw [p, if_neg (by decide)] at h
      exact Or.inr ⟨rfl, h⟩
    · rw [p, if_pos rfl] at h
      exact Or.inl ⟨rfl, h⟩
  have hc1 : c1 = false ∨ (c1 = true ∧ n ≤ m) := by
    cases c1
    · exact Or.inl rfl
    · exact Or.inr ⟨rfl, G1 rfl⟩
  have hc2 : c2 = false ∨ (c2 = true ∧ m ≤ n) := by
    cases c2
    · exact Or.inl rfl
    · exact Or.inr ⟨rfl, G2 rfl⟩
  clear G1 G2 HM
  rcases hm2 with ⟨hn, rfl⟩ | ⟨hn, hl⟩
  · rw [hn] at o3
    clear HL
    rcases hc1 with rfl | ⟨rfl, t1⟩ <;> rcases hc2 with rfl | ⟨rfl, t2⟩
    all_goals
      go_wp2_with fail
      refine (rated_true _).mono ?_
      rintro e w' ⟨rfl, rfl⟩
      go_wp2
      go_ret
      exact ⟨rfl, Below.refl _ _⟩
  · rw [hn] at o3
    have HB := Lib.hid (HL.out hn)
    have HM := Lib.hid hl
    clear HL hl hn
    generalize sr x = s at *
    rcases hc1 with rfl | ⟨rfl, t1⟩ <;> rcases hc2 with rfl | ⟨rfl, t2⟩
    all_goals
      go_wp2_with fail
      go_loopw [9, 10] (fun h i wr => ∃ k : Nat, 1 ≤ k ∧ k ≤ m ∧ i = .int .i64 k ∧ h = .float .f64 (hw (k - 1)) ∧ wr = w) (fun _ i _ => 17 - (intOf i).toNat)
      case atStart => exact ⟨1, by omega, by omega, rfl, by rw [show (1 - 1 : Nat) = 0 from rfl, hw_zero], rfl⟩
      case round =>
        obtain ⟨k, k1, k2, rfl, rfl, rfl⟩ := hrel
        have H1 := half_run 23 (k - 1) (by omega) wr
        rw [show k - 1 + 1 = k by omega] at H1
        have o1 := HB.out k
        by_cases hlt : k < m
        · have e1 : decide ((hw k : Int) ≤ s) = false := decide_eq_false (by have := HM.out.2.2.1 k k1 hlt; omega)
          rw [e1] at o1
          clear e1
          obtain ⟨u, hu⟩ : ∃ u, u = hw (k - 1) := ⟨_, rfl⟩
          obtain ⟨v, hv⟩ : ∃ v, v = hw k := ⟨_, rfl⟩
          rw [← hu, ← hv] at H1
          rw [← hv] at o1
          rw [← hu]
          have V := Lib.hid hv
          clear hu hv
          have l1 : (k : Int) < (m : Int) := by omega
          go_wp2
          go_roundw
          case rel => exact ⟨k + 1, by omega, by omega, by go_num, by rw [V.out]; rfl, by trivial⟩
          case measure => simp [intOf]; omega
        · obtain rfl : k = m := by omega
          have hz : decide ((hw k : Int) ≤ s) = true ∨ (decide ((hw k : Int) ≤ s) = false ∧ k = 16) := by
            rcases HM.out.2.2.2 with h | h
            · by_cases q : (hw k : Int) ≤ s
              · exact Or.inl (decide_eq_true q)
              · exact Or.inr ⟨decide_eq_false q, h⟩
            · exact Or.inl (decide_eq_true h)
          clear HM
          generalize decide ((hw k : Int) ≤ s) = d at *
          obtain ⟨u, hu⟩ : ∃ u, u = hw (k - 1) := ⟨_, rfl⟩
          obtain ⟨v, hv⟩ : ∃ v, v = hw k := ⟨_, rfl⟩
          rw [← hu, ← hv] at H1
          rw [← hv] at o1
          rw [← hu]
          clear hu hv HB
          rcases hz with rfl | ⟨rfl, rfl⟩
          all_goals
            go_wp2_with fail
            refine (rated_true _).mono ?_
            rintro e w' ⟨rfl, rfl⟩
            go_wp2
            go_ret
            exact ⟨rfl, Below.refl _ _⟩
end Go.Proofs.Ytdhkfkkpddpcaaa.ratesFallW

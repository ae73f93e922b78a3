/- The program's Back of records. -/
import Derived.Test.YtabalpcgnkjelaaRecGet
namespace Go.Proofs.Ytabalpcgnkjelaa
open Go.RowKit
set_option linter.unusedVariables false

theorem cut_ext (s : ByteArray) (k i j : Nat) (h : j ≤ k) : (s.extract 0 k).extract i j = s.extract i j := by
  rw [ByteArray.extract_extract, Nat.zero_add, Nat.zero_add, Nat.min_eq_left h]
theorem gtLen_cut (s : ByteArray) (k j : Nat) (h : j + 4 ≤ k) : gtLen (s.extract 0 k) j = gtLen s j := by
  unfold gtLen
  rw [cut_ext _ _ _ _ h]
/-- What stands in a beginning of a text stands in all of it, and the other way round, if it ends there. -/
theorem gtOk_cut (s : ByteArray) (k j : Nat) (hk : k ≤ s.size) : gtOk (s.extract 0 k) j = true ↔ gtOk s j = true ∧ getN s (j : Nat) ≤ k := by
  have hz : (s.extract 0 k).size = k := by rw [ByteArray.size_extract]; omega
  constructor
  · intro h
    obtain ⟨h1, h2, h3, h4⟩ := gtOk_iff.1 h
    rw [hz] at h1 h3
    rw [gtLen_cut _ _ _ (by omega)] at h2 h3 h4
    rw [cut_ext _ _ _ _ h3, cut_ext _ _ _ _ (by omega)] at h4
    have h5 : gtOk s j = true := gtOk_iff.2 ⟨by omega, h2, by omega, h4⟩
    refine ⟨h5, ?_⟩
    rw [(gt_yes h5).2.2]
    exact h3
  · rintro ⟨h5, h6⟩
    obtain ⟨h1, h2, h3, h4⟩ := gtOk_iff.1 h5
    rw [(gt_yes h5).2.2] at h6
    have e := gtLen_cut s k j (by omega)
    rw [gtOk_iff, e, hz, cut_ext _ _ _ _ h6, cut_ext _ _ _ _ (by omega)]
    exact ⟨by omega, h2, h6, h4⟩
theorem get_cut (s : ByteArray) (k j : Nat) (hk : k ≤ s.size) (h : gtOk (s.extract 0 k) j = true) : getP (s.extract 0 k) (j : Nat) = getP s (j : Nat) ∧ getN (s.extract 0 k) (j : Nat) = getN s (j : Nat) := by
  have hz : (s.extract 0 k).size = k := by rw [ByteArray.size_extract]; omega
  obtain ⟨h5, h6⟩ := (gtOk_cut s k j hk).1 h
  have hi := gtOk_iff.1 h
  rw [hz] at hi
  have e := gtLen_cut s k j (by omega)
  obtain ⟨_, a2, a3⟩ := gt_yes h
  obtain ⟨_, b2, b3⟩ := gt_yes h5
  rw [a2, a3, b2, b3, e]
  rw [b3] at h6
  exact ⟨cut_ext _ _ _ _ (by omega), rfl⟩

theorem rback_out (s : ByteArray) (a : Int) (w : World) (hs : s.size ≤ maxLen) (wa : (Lit.int .i64 a).wf = true) (h : a < 12 ∨ (s.size : Int) < a) :
    Calls Try.prog 16 #[.string s, .int .i64 a] w (NoRec w) := by
  have H1 := Lib.hid fun W => place_any s a W hs wa
  have hb := bounds_i64 wa
  by_cases hp : 0 ≤ a ∧ a ≤ s.size
  · have h12 : a < 12 := by omega
    rw [decide_eq_true hp] at H1
    unfold maxLen at hs
    go_enter Try.func16, Try.ntmps16
    go_wp2_with fail
    refine (H1.out _).mono ?_
    rintro e w1 ⟨rfl, rfl⟩
    go_wp2
    go_ret3
    exact ⟨rfl, Below.refl _ _⟩
  · rw [decide_eq_false hp] at H1
    unfold maxLen at hs
    go_enter Try.func16, Try.ntmps16
    go_wp2_with fail
    refine (H1.out _).mono ?_
    rintro e w1 ⟨rfl, rfl⟩
    go_wp2
    go_ret3
    exact ⟨rfl, Below.refl _ _⟩

theorem rback_len (s : ByteArray) (k : Nat) (w : World) (hs : s.size ≤ maxLen) (h12 : 12 ≤ k) (hk : k ≤ s.size) (m : Int)
    (hp : ∀ w : World, Calls Try.prog 26 #[.string s, .int .i64 (k : Nat)] w fun e w' => e = .returned (.bool true) ∧ w = w')
    (hz : ∀ w : World, Calls Try.prog 29 #[.string (s.extract (k - 4) s.size)] w fun e w' => e = .returned (.tuple #[.int .i64 m, .bool false]) ∧ w = w') :
    Calls Try.prog 16 #[.string s, .int .i64 (k : Nat)] w (NoRec w) := by
  have H1 := Lib.hid hp
  have H2 := Lib.hid hz
  have x1 : ((k : Int) - 4).toNat = k - 4 := by omega
  have y0 : ¬ (k : Int) < 12 := by omega
  clear hp hz
  unfold maxLen at hs
  go_enter Try.func16, Try.ntmps16
  go_wp2_with fail
  refine (H1.out _).mono ?_
  rintro e w1 ⟨rfl, rfl⟩
  go_wp2_with fail
  refine (H2.out _).mono ?_
  rintro e w1 ⟨rfl, rfl⟩
  go_wp2
  go_ret3
  exact ⟨rfl, Below.refl _ _⟩

theorem rback_at (s : ByteArray) (k n : Nat) (w : World) (hs : s.size ≤ maxLen) (h12 : 12 ≤ k) (hk : k ≤ s.size) (hn : n ≤ 2000) (P : ByteArray) (N : Nat) (o : Bool) (hN : N ≤ s.size)
    (hp : ∀ w : World, Calls Try.prog 26 #[.string s, .int .i64 (k : Nat)] w fun e w' => e = .returned (.bool true) ∧ w = w')
    (hz : ∀ w : World, Calls Try.prog 29 #[.string (s.extract (k - 4) s.size)] w fun e w' => e = .returned (.tuple #[.int .i64 (n : Nat), .bool true]) ∧ w = w')
    (hr : ∀ w : World, Calls Try.prog 15 #[.string (s.extract 0 k), .int .i64 ((k : Int) - 12 - (n : Int))] w fun e w' => e = .returned (.tuple #[.string P, .int .i64 (N : Nat), .bool o]) ∧ Below w.heap.size w w') :
    Calls Try.prog 16 #[.string s, .int .i64 (k : Nat)] w fun e w' => e = .returned (if o = true ∧ N = k then .tuple #[.string P, .int .i64 ((k : Int) - 12 - (n : Int)), .bool true] else .tuple #[.string ByteArray.empty, .int .i64 0, .bool false]) ∧ Below w.heap.size w w' := by
  have H1 := Lib.hid hp
  have H2 := Lib.hid hz
  have Hr := Lib.hid hr
  have x1 : ((k : Int) - 4).toNat = k - 4 := by omega
  have y0 : ¬ (k : Int) < 12 := by omega
  unfold maxLen at hs
  clear hp hz hr
  cases o
  · rw [if_neg (by simp)]
    go_enter Try.func16, Try.ntmps16
    go_wp2_with fail
    refine (H1.out _).mono ?_
    rintro e w' ⟨rfl, rfl⟩
    go_wp2_with fail
    refine (H2.out _).mono ?_
    rintro e w' ⟨rfl, rfl⟩
    go_wp2_with fail
    refine (Hr.out _).mono ?_
    rintro e w1 ⟨rfl, hb1⟩
    go_wp2
    go_ret3
    exact ⟨rfl, hb1⟩
  · by_cases hNk : N = k
    · rw [if_pos ⟨rfl, hNk⟩]
      subst hNk
      have z : ((N : Int) != (N : Int)) = false := by simp
      go_enter Try.func16, Try.ntmps16
      go_wp2_with fail
      refine (H1.out _).mono ?_
      rintro e w' ⟨rfl, rfl⟩
      go_wp2_with fail
      refine (H2.out _).mono ?_
      rintro e w' ⟨rfl, rfl⟩
      go_wp2_with fail
      refine (Hr.out _).mono ?_
      rintro e w1 ⟨rfl, hb1⟩
      go_wp2
      go_ret3
      exact ⟨rfl, hb1⟩
    · rw [if_neg (fun h => hNk h.2)]
      have z : ((N : Int) != (k : Int)) = true := by simp; omega
      have z2 : ((N : Int) == (k : Int)) = false := by simp; omega
      go_enter Try.func16, Try.ntmps16
      go_wp2_with fail
      refine (H1.out _).mono ?_
      rintro e w' ⟨rfl, rfl⟩
      go_wp2_with fail
      refine (H2.out _).mono ?_
      rintro e w' ⟨rfl, rfl⟩
      go_wp2_with fail
      refine (Hr.out _).mono ?_
      rintro e w1 ⟨rfl, hb1⟩
      go_wp2
      go_ret3
      exact ⟨rfl, hb1⟩

/-- The program's Back. -/
theorem rback_any (s : ByteArray) (a : Int) (w : World) (hs : s.size ≤ maxLen) (wa : (Lit.int .i64 a).wf = true) :
    Calls Try.prog 16 #[.string s, .int .i64 a] w (BackRec s a w) := by
  by_cases h : a < 12 ∨ (s.size : Int) < a
  · refine (rback_out s a w hs wa h).mono fun e w' hn => back_no ?_ hn
    unfold bkOk
    rw [decide_eq_false (by omega), Bool.false_and, Bool.false_and]
  · obtain ⟨k, rfl⟩ : ∃ k : Nat, a = k := ⟨a.toNat, by omega⟩
    have hk : k ≤ s.size := by omega
    have h12 : 12 ≤ k := by omega
    have hp : ∀ w : World, Calls Try.prog 26 #[.string s, .int .i64 (k : Nat)] w fun e w' => e = .returned (.bool true) ∧ w = w' := fun W => by
      have := place_any s (k : Nat) W hs wa
      rw [decide_eq_true (by omega)] at this
      exact this
    have zt : (s.extract (k - 4) s.size).size = s.size - (k - 4) := by rw [ByteArray.size_extract]; omega
    have hz := fun W => size_any (s.extract (k - 4) s.size) W (by unfold maxLen at *; omega) (by omega)
    have e4 : getS ((s.extract (k - 4) s.size).extract 0 4) = bkLen s k := by
      unfold bkLen
      rw [ByteArray.extract_extract, Nat.add_zero, show min (k - 4 + 4) s.size = k by omega]
    rw [e4] at hz
    by_cases h2 : 2000 < bkLen s k
    · rw [if_pos h2, decide_eq_false (by omega)] at hz
      refine (rback_len s k w hs h12 hk _ hp hz).mono fun e w' hn => back_no ?_ hn
      unfold bkOk
      rw [Int.toNat_natCast, decide_eq_false (by omega), Bool.false_and, Bool.false_and]
    · rw [if_neg h2, decide_eq_true (by omega)] at hz
      have zk : (s.extract 0 k).size = k := by rw [ByteArray.size_extract]; omega
      have hr : ∀ w : World, Calls Try.prog 15 #[.string (s.extract 0 k), .int .i64 ((k : Int) - 12 - (bkLen s k : Int))] w (GotRec (s.extract 0 k) ((k : Int) - 12 - (bkLen s k : Int)) w) := fun W => rget_any (s.extract 0 k) _ W (by unfold maxLen at *; omega) (by
        have := bounds_i64 wa
        exact WalkArith.wf_i64 (by omega))
      refine (rback_at s k _ w hs h12 hk (by omega) _ _ _ (by have := getN_le (s.extract 0 k) ((k : Int) - 12 - (bkLen s k : Int)); omega) hp hz hr).mono fun e w' ⟨he, hb⟩ => ⟨?_, hb⟩
      rw [he]
      by_cases hlt : k < bkLen s k + 12
      · have q1 : getOk (s.extract 0 k) ((k : Int) - 12 - (bkLen s k : Int)) = false := by
          unfold getOk
          rw [decide_eq_false (by omega), Bool.false_and]
        have q2 : bkOk s (k : Nat) = false := by
          unfold bkOk
          rw [Int.toNat_natCast, decide_eq_false (by omega), Bool.false_and, Bool.false_and]
        obtain ⟨f1, f2⟩ := bk_no q2
        rw [q1, q2, f1, f2]
        rfl
      · have e1 : (k : Int) - 12 - (bkLen s k : Int) = ((k - 12 - bkLen s k : Nat) : Int) := by omega
        rw [e1, getOk_nat]
        have q : bkOk s (k : Nat) = (gtOk s (k - 12 - bkLen s k) && decide (getN s ((k - 12 - bkLen s k : Nat) : Int) = k)) := by
          unfold bkOk
          rw [Int.toNat_natCast, decide_eq_true (by omega), Bool.true_and]
        by_cases hc : gtOk (s.extract 0 k) (k - 12 - bkLen s k) = true ∧ getN (s.extract 0 k) ((k - 12 - bkLen s k : Nat) : Int) = k
        · obtain ⟨g1, g2⟩ := get_cut s k _ hk hc.1
          have q2 : bkOk s (k : Nat) = true := by
            rw [q, ((gtOk_cut s k _ hk).1 hc.1).1, ← g2, decide_eq_true hc.2]; rfl
          rw [if_pos hc, q2, g1]
          unfold bkP bkA
          rw [if_pos q2, if_pos q2, Int.toNat_natCast]
        · have q2 : bkOk s (k : Nat) = false := by
            rw [q]
            cases hx : gtOk s (k - 12 - bkLen s k) with
            | false => rfl
            | true =>
              rw [decide_eq_false (fun h => hc ?_)]
              · rfl
              · have y := (gtOk_cut s k _ hk).2 ⟨hx, Nat.le_of_eq h⟩
                exact ⟨y, by rw [(get_cut s k _ hk y).2, h]⟩
          obtain ⟨f1, f2⟩ := bk_no q2
          rw [if_neg hc, q2, f1, f2]
          rfl
end Go.Proofs.Ytabalpcgnkjelaa

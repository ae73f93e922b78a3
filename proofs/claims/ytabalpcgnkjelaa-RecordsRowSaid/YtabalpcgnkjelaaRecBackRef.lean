/- The document's Back of records. -/
import Derived.Test.YtabalpcgnkjelaaRecGetRef
import Derived.WalkArith
namespace Go.Proofs.Ytabalpcgnkjelaa
open Go.RowKit
set_option linter.unusedVariables false

theorem brec_out (s : ByteArray) (a : Int) (w : World) (hs : s.size ≤ maxLen) (wa : (Lit.int .i64 a).wf = true) (h : a < 12 ∨ (s.size : Int) < a) :
    Calls Try.prog 24 #[.string s, .int .i64 a] w (NoRec w) := by
  have hb := bounds_i64 wa
  unfold maxLen at hs
  by_cases h0 : a < 12
  · go_enter Try.func24, Try.ntmps24
    go_wp2
    go_ret3
    exact ⟨rfl, Below.refl _ _⟩
  · have h1 : (s.size : Int) < a := by omega
    go_enter Try.func24, Try.ntmps24
    go_wp2
    go_ret3
    exact ⟨rfl, Below.refl _ _⟩

theorem brec_len (s : ByteArray) (k n : Nat) (w : World) (hs : s.size ≤ maxLen) (h12 : 12 ≤ k) (hk : k ≤ s.size) (hn : n < 18446744073709551616) (h : 2000 < n ∨ k < n + 12)
    (hg : ∀ w : World, Calls Try.prog 33 #[.string (s.extract (k - 4) k)] w fun e w' => e = .returned (.int .u64 (n : Nat)) ∧ w = w') :
    Calls Try.prog 24 #[.string s, .int .i64 (k : Nat)] w (NoRec w) := by
  have Hg := Lib.hid hg
  have x1 : ((k : Int) - 4).toNat = k - 4 := by omega
  have y0 : ¬ (k : Int) < 12 := by omega
  unfold maxLen at hs
  clear hg
  by_cases h2 : 2000 < n
  · go_enter Try.func24, Try.ntmps24
    go_wp2_with fail
    refine (Hg.out _).mono ?_
    rintro e w' ⟨rfl, rfl⟩
    go_wp2
    go_ret3
    exact ⟨rfl, Below.refl _ _⟩
  · have y2 : (k : Int) < (n : Int) + 12 := by omega
    go_enter Try.func24, Try.ntmps24
    go_wp2_with fail
    refine (Hg.out _).mono ?_
    rintro e w' ⟨rfl, rfl⟩
    go_wp2
    go_ret3
    exact ⟨rfl, Below.refl _ _⟩

/-- With what Get tells of the place. -/
theorem brec_at (s : ByteArray) (k n : Nat) (w : World) (hs : s.size ≤ maxLen) (h12 : 12 ≤ k) (hk : k ≤ s.size) (hn : n ≤ 2000) (hnk : n + 12 ≤ k) (P : ByteArray) (N : Nat) (o : Bool) (hN : N ≤ s.size)
    (hg : ∀ w : World, Calls Try.prog 33 #[.string (s.extract (k - 4) k)] w fun e w' => e = .returned (.int .u64 (n : Nat)) ∧ w = w')
    (hr : ∀ w : World, Calls Try.prog 23 #[.string s, .int .i64 ((k : Int) - 12 - (n : Int))] w fun e w' => e = .returned (.tuple #[.string P, .int .i64 (N : Nat), .bool o]) ∧ Below w.heap.size w w') :
    Calls Try.prog 24 #[.string s, .int .i64 (k : Nat)] w fun e w' => e = .returned (if o = true ∧ N = k then .tuple #[.string P, .int .i64 ((k : Int) - 12 - (n : Int)), .bool true] else .tuple #[.string ByteArray.empty, .int .i64 0, .bool false]) ∧ Below w.heap.size w w' := by
  have Hg := Lib.hid hg
  have Hr := Lib.hid hr
  have x1 : ((k : Int) - 4).toNat = k - 4 := by omega
  have y0 : ¬ (k : Int) < 12 := by omega
  have y2 : ¬ (k : Int) < (n : Int) + 12 := by omega
  unfold maxLen at hs
  clear hg hr
  cases o
  · rw [if_neg (by simp)]
    go_enter Try.func24, Try.ntmps24
    go_wp2_with fail
    refine (Hg.out _).mono ?_
    rintro e w' ⟨rfl, rfl⟩
    go_wp2_with fail
    refine (Hr.out _).mono ?_
    rintro e w1 ⟨rfl, hb1⟩
    go_wp2
    go_ret3
    exact ⟨rfl, hb1⟩
  · by_cases hNk : N = k
    · rw [if_pos ⟨rfl, hNk⟩]
      subst hNk
      have z : ((N : Int) != (N : Int)) = false := by simp
      go_enter Try.func24, Try.ntmps24
      go_wp2_with fail
      refine (Hg.out _).mono ?_
      rintro e w' ⟨rfl, rfl⟩
      go_wp2_with fail
      refine (Hr.out _).mono ?_
      rintro e w1 ⟨rfl, hb1⟩
      go_wp2
      go_ret3
      exact ⟨rfl, hb1⟩
    · rw [if_neg (fun h => hNk h.2)]
      have z : ((N : Int) != (k : Int)) = true := by simp; omega
      have z2 : ((N : Int) == (k : Int)) = false := by simp; omega
      go_enter Try.func24, Try.ntmps24
      go_wp2_with fail
      refine (Hg.out _).mono ?_
      rintro e w' ⟨rfl, rfl⟩
      go_wp2_with fail
      refine (Hr.out _).mono ?_
      rintro e w1 ⟨rfl, hb1⟩
      go_wp2
      go_ret3
      exact ⟨rfl, hb1⟩

/-- What Back tells. -/
def BackRec (s : ByteArray) (a : Int) (w : World) (e : Ending) (w' : World) : Prop := e = .returned (.tuple #[.string (bkP s a), .int .i64 (bkA s a : Nat), .bool (bkOk s a)]) ∧ Below w.heap.size w w'
theorem back_no {s : ByteArray} {a : Int} {w w' : World} {e : Ending} (h : bkOk s a = false) (hn : NoRec w e w') : BackRec s a w e w' := by
  obtain ⟨e1, e2⟩ := bk_no h
  unfold BackRec
  rw [e1, e2, h]
  exact hn

/-- The document's Back. -/
theorem brec_ref (s : ByteArray) (a : Int) (w : World) (hs : s.size ≤ maxLen) (wa : (Lit.int .i64 a).wf = true) :
    Calls Try.prog 24 #[.string s, .int .i64 a] w (BackRec s a w) := by
  by_cases h : a < 12 ∨ (s.size : Int) < a
  · refine (brec_out s a w hs wa h).mono fun e w' hn => back_no ?_ hn
    unfold bkOk
    rw [decide_eq_false (by omega), Bool.false_and, Bool.false_and]
  · obtain ⟨k, rfl⟩ : ∃ k : Nat, a = k := ⟨a.toNat, by omega⟩
    have hg := fun W => get_ref (s.extract (k - 4) k) W (by unfold maxLen at *; rw [ByteArray.size_extract]; omega)
    have hn := getS_lt (s.extract (k - 4) k)
    have hle : getS (s.extract (k - 4) k) = bkLen s k := rfl
    rw [hle] at hn hg
    by_cases h2 : 2000 < bkLen s k ∨ k < bkLen s k + 12
    · refine (brec_len s k _ w hs (by omega) (by omega) hn h2 hg).mono fun e w' hn => back_no ?_ hn
      unfold bkOk
      rw [Int.toNat_natCast, decide_eq_false (by omega), Bool.false_and, Bool.false_and]
    · have e1 : (k : Int) - 12 - (bkLen s k : Int) = ((k - 12 - bkLen s k : Nat) : Int) := by omega
      have hr : ∀ w : World, Calls Try.prog 23 #[.string s, .int .i64 ((k : Int) - 12 - (bkLen s k : Int))] w (GotRec s ((k : Int) - 12 - (bkLen s k : Int)) w) := fun W => grec_ref s _ W hs (by
        have := bounds_i64 wa
        exact WalkArith.wf_i64 (by omega))
      refine (brec_at s k _ w hs (by omega) (by omega) (by omega) (by omega) _ _ _ (getN_le s _) hg hr).mono fun e w' ⟨he, hb⟩ => ⟨?_, hb⟩
      rw [he, e1, getOk_nat]
      have q : bkOk s (k : Nat) = (gtOk s (k - 12 - bkLen s k) && decide (getN s ((k - 12 - bkLen s k : Nat) : Int) = k)) := by
        unfold bkOk
        rw [Int.toNat_natCast, decide_eq_true (by omega), Bool.true_and]
      by_cases hc : gtOk s (k - 12 - bkLen s k) = true ∧ getN s ((k - 12 - bkLen s k : Nat) : Int) = k
      · have q2 : bkOk s (k : Nat) = true := by rw [q, hc.1, decide_eq_true hc.2]; rfl
        rw [if_pos hc, q2]
        unfold bkP bkA
        rw [if_pos q2, if_pos q2, Int.toNat_natCast]
      · have q2 : bkOk s (k : Nat) = false := by
          rw [q]
          cases hx : gtOk s (k - 12 - bkLen s k) with
          | false => rfl
          | true => rw [decide_eq_false (fun h => hc ⟨hx, h⟩)]; rfl
        obtain ⟨f1, f2⟩ := bk_no q2
        rw [if_neg hc, q2, f1, f2]
        rfl
end Go.Proofs.Ytabalpcgnkjelaa

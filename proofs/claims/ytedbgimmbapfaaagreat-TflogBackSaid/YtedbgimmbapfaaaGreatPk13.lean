/- RecGet -/
import Derived.Test.YtedbgimmbapfaaaGreatPk12
/- RecGet -/
namespace Go.Proofs.YtedbgimmbapfaaaGreat
open Go.RowKit
set_option linter.unusedVariables false

theorem rget_out (s : ByteArray) (a : Int) (w : World) (hs : s.size ≤ maxLen) (wa : (Lit.int .i64 a).wf = true) (h : ¬ (0 ≤ a ∧ a ≤ s.size)) :
    Calls Tryz.prog 29 #[.string s, .int .i64 a] w (NoRec w) := by
  have H1 := Lib.hid fun W => place_any s a W hs wa
  rw [decide_eq_false h] at H1
  go_enter Tryz.func29, Tryz.ntmps29
  go_wp2_with fail
  refine (H1.out _).mono ?_
  rintro e w1 ⟨rfl, rfl⟩
  go_wp2
  go_ret3
  exact ⟨rfl, Below.refl _ _⟩

theorem rget_none (s : ByteArray) (k : Nat) (w : World) (hs : s.size ≤ maxLen) (hk : k ≤ s.size)
    (hp : ∀ w : World, Calls Tryz.prog 55 #[.string s, .int .i64 (k : Nat)] w fun e w' => e = .returned (.bool true) ∧ w = w')
    (ha : ∀ w : World, Calls Tryz.prog 56 #[.string (s.extract k s.size)] w fun e w' => e = .returned (.tuple #[.string ByteArray.empty, .bool false]) ∧ w = w') :
    Calls Tryz.prog 29 #[.string s, .int .i64 (k : Nat)] w (NoRec w) := by
  have H1 := Lib.hid hp
  have H2 := Lib.hid ha
  clear hp ha
  unfold maxLen at hs
  go_enter Tryz.func29, Tryz.ntmps29
  go_wp2_with fail
  refine (H1.out _).mono ?_
  rintro e w1 ⟨rfl, rfl⟩
  go_wp2_with fail
  refine (H2.out _).mono ?_
  rintro e w1 ⟨rfl, rfl⟩
  go_wp2
  go_ret3
  exact ⟨rfl, Below.refl _ _⟩

theorem rget_two (s : ByteArray) (k : Nat) (w : World) (hs : s.size ≤ maxLen) (hk : k ≤ s.size) (R : ByteArray) (hR : 12 ≤ R.size) (hR2 : R.size ≤ 2012)
    (hp : ∀ w : World, Calls Tryz.prog 55 #[.string s, .int .i64 (k : Nat)] w fun e w' => e = .returned (.bool true) ∧ w = w')
    (ha : ∀ w : World, Calls Tryz.prog 56 #[.string (s.extract k s.size)] w fun e w' => e = .returned (.tuple #[.string R, .bool true]) ∧ w = w')
    (hq : ¬ R.extract (R.size - 4) R.size = R.extract 0 4) :
    Calls Tryz.prog 29 #[.string s, .int .i64 (k : Nat)] w (NoRec w) := by
  have H1 := Lib.hid hp
  have H2 := Lib.hid ha
  have q1 := rtxt_ne hq
  have q2 := list_ne hq
  have x1 : ((R.size : Int) - 4).toNat = R.size - 4 := by omega
  have x2 : (0 : Int) ≤ (R.size : Int) - 4 := by omega
  have x3 : (R.size : Int) - 4 ≤ R.size := by omega
  have x4 : (4 : Int) ≤ (R.size : Int) := by omega
  clear hp ha hq
  unfold maxLen at hs
  go_enter Tryz.func29, Tryz.ntmps29
  go_wp2_with fail
  refine (H1.out _).mono ?_
  rintro e w1 ⟨rfl, rfl⟩
  go_wp2_with fail
  refine (H2.out _).mono ?_
  rintro e w1 ⟨rfl, rfl⟩
  go_wp2_with fail
  go_region
  go_wp2
  go_ret3
  exact ⟨rfl, below_drewN (Below.refl _ _) _⟩
theorem rget_bad (s : ByteArray) (k : Nat) (w : World) (hs : s.size ≤ maxLen) (hk : k ≤ s.size) (R T : ByteArray) (hR : 12 ≤ R.size) (hR2 : R.size ≤ 2012) (hR3 : k + R.size ≤ s.size)
    (hp : ∀ w : World, Calls Tryz.prog 55 #[.string s, .int .i64 (k : Nat)] w fun e w' => e = .returned (.bool true) ∧ w = w')
    (ha : ∀ w : World, Calls Tryz.prog 56 #[.string (s.extract k s.size)] w fun e w' => e = .returned (.tuple #[.string R, .bool true]) ∧ w = w')
    (hq : R.extract (R.size - 4) R.size = R.extract 0 4)
    (ho : ∀ w : World, Calls Tryz.prog 57 #[.string (R.extract 0 (R.size - 4))] w fun e w' => e = .returned (.tuple #[.string T, .bool false]) ∧ Below w.heap.size w w') :
    Calls Tryz.prog 29 #[.string s, .int .i64 (k : Nat)] w (NoRec w) := by
  have H1 := Lib.hid hp
  have H2 := Lib.hid ha
  have H3 := Lib.hid ho
  have q1 := rtxt_eq hq
  have q2 : (!((R.extract (R.size - 4) R.size).toList == (R.extract 0 4).toList)) = false := by rw [q1]; rfl
  have q3 : ((R.extract (R.size - 4) R.size).toList != (R.extract 0 4).toList) = false := by simpa using q1
  have x1 : ((R.size : Int) - 4).toNat = R.size - 4 := by omega
  have x2 : (0 : Int) ≤ (R.size : Int) - 4 := by omega
  have x3 : (R.size : Int) - 4 ≤ R.size := by omega
  have x4 : (4 : Int) ≤ (R.size : Int) := by omega
  clear hp ha hq ho
  unfold maxLen at hs
  go_enter Tryz.func29, Tryz.ntmps29
  go_wp2_with fail
  refine (H1.out _).mono ?_
  rintro e w1 ⟨rfl, rfl⟩
  go_wp2_with fail
  refine (H2.out _).mono ?_
  rintro e w1 ⟨rfl, rfl⟩
  go_wp2_with fail
  go_region
  go_wp2_with fail
  refine (H3.out _).mono ?_
  rintro e w1 ⟨rfl, hb1⟩
  have hb2 := bj (below_drewN (Below.refl w.heap.size w) _) hb1
  clear hb1
  go_wp2
  go_ret3
  exact ⟨rfl, hb2⟩

theorem rget_yes (s : ByteArray) (k : Nat) (w : World) (hs : s.size ≤ maxLen) (hk : k ≤ s.size) (R T : ByteArray) (hR : 12 ≤ R.size) (hR2 : R.size ≤ 2012) (hR3 : k + R.size ≤ s.size)
    (hp : ∀ w : World, Calls Tryz.prog 55 #[.string s, .int .i64 (k : Nat)] w fun e w' => e = .returned (.bool true) ∧ w = w')
    (ha : ∀ w : World, Calls Tryz.prog 56 #[.string (s.extract k s.size)] w fun e w' => e = .returned (.tuple #[.string R, .bool true]) ∧ w = w')
    (hq : R.extract (R.size - 4) R.size = R.extract 0 4)
    (ho : ∀ w : World, Calls Tryz.prog 57 #[.string (R.extract 0 (R.size - 4))] w fun e w' => e = .returned (.tuple #[.string T, .bool true]) ∧ Below w.heap.size w w')
    (hT : 4 ≤ T.size) (hT2 : T.size ≤ 3000) :
    Calls Tryz.prog 29 #[.string s, .int .i64 (k : Nat)] w fun e w' => e = .returned (.tuple #[.string (T.extract 4 T.size), .int .i64 ((k : Int) + (R.size : Int)), .bool true]) ∧ Below w.heap.size w w' := by
  have H1 := Lib.hid hp
  have H2 := Lib.hid ha
  have H3 := Lib.hid ho
  have q1 := rtxt_eq hq
  have q2 : (!((R.extract (R.size - 4) R.size).toList == (R.extract 0 4).toList)) = false := by rw [q1]; rfl
  have q3 : ((R.extract (R.size - 4) R.size).toList != (R.extract 0 4).toList) = false := by simpa using q1
  have x1 : ((R.size : Int) - 4).toNat = R.size - 4 := by omega
  have x2 : (0 : Int) ≤ (R.size : Int) - 4 := by omega
  have x3 : (R.size : Int) - 4 ≤ R.size := by omega
  have x4 : (4 : Int) ≤ (R.size : Int) := by omega
  clear hp ha hq ho
  unfold maxLen at hs
  go_enter Tryz.func29, Tryz.ntmps29
  go_wp2_with fail
  refine (H1.out _).mono ?_
  rintro e w1 ⟨rfl, rfl⟩
  go_wp2_with fail
  refine (H2.out _).mono ?_
  rintro e w1 ⟨rfl, rfl⟩
  go_wp2_with fail
  go_region
  go_wp2_with fail
  refine (H3.out _).mono ?_
  rintro e w1 ⟨rfl, hb1⟩
  have hb2 := bj (below_drewN (Below.refl w.heap.size w) _) hb1
  clear hb1
  go_wp2
  go_ret3
  exact ⟨rfl, hb2⟩

theorem sub_ext (s : ByteArray) (k m i j : Nat) (h : j ≤ m) : (s.extract k (k + m)).extract i j = s.extract (k + i) (k + j) := by
  rw [ByteArray.extract_extract, Nat.min_eq_left (by omega)]

set_option maxHeartbeats 400000 in
/-- The program's Get. -/
theorem rget_any (s : ByteArray) (a : Int) (w : World) (hs : s.size ≤ maxLen) (wa : (Lit.int .i64 a).wf = true) :
    Calls Tryz.prog 29 #[.string s, .int .i64 a] w (GotRec s a w) := by
  by_cases h : ¬ (0 ≤ a ∧ a ≤ s.size)
  · refine (rget_out s a w hs wa h).mono fun e w' hn => got_no ?_ hn
    unfold getOk
    by_cases h0 : 0 ≤ a
    · rw [gtOk_false (by omega), Bool.and_false]
    · rw [decide_eq_false h0, Bool.false_and]
  · obtain ⟨k, rfl⟩ : ∃ k : Nat, a = k := ⟨a.toNat, by omega⟩
    have hk : k ≤ s.size := by omega
    have hp : ∀ w : World, Calls Tryz.prog 55 #[.string s, .int .i64 (k : Nat)] w fun e w' => e = .returned (.bool true) ∧ w = w' := fun W => by
      have := place_any s (k : Nat) W hs wa
      rw [decide_eq_true (by omega)] at this
      exact this
    have ha := fun W => asked_any (s.extract k s.size) W (by unfold maxLen at *; rw [ByteArray.size_extract]; omega)
    have hz : (s.extract k s.size).size = s.size - k := by rw [ByteArray.size_extract]; omega
    have ex : ∀ i j, j ≤ s.size - k → (s.extract k s.size).extract i j = s.extract (k + i) (k + j) := fun i j hj => by
      rw [ByteArray.extract_extract]; congr 1; omega
    by_cases h12 : k + 12 ≤ s.size
    · have e4 : getS ((s.extract k s.size).extract 0 4) = gtLen s k := by rw [ex _ _ (by omega)]; rfl
      by_cases h2 : gtLen s k ≤ 2000 ∧ k + gtLen s k + 12 ≤ s.size
      · have hok : askOk (s.extract k s.size) = true := by
          unfold askOk
          rw [e4, hz]
          exact decide_eq_true ⟨by omega, h2.1, by omega⟩
        have hS : askS (s.extract k s.size) = s.extract k (k + gtLen s k + 12) := by
          unfold askS
          rw [if_pos hok, e4, ex _ _ (by omega), Nat.add_zero, Nat.add_assoc]
        rw [hok, hS] at ha
        have zR : (s.extract k (k + gtLen s k + 12)).size = gtLen s k + 12 := by rw [ByteArray.size_extract]; omega
        have gR : getS ((s.extract k (k + gtLen s k + 12)).extract 0 4) = gtLen s k := by
          rw [Nat.add_assoc, sub_ext _ _ _ _ _ (by omega), Nat.add_zero]
          rfl
        have hi := rec_iff _ _ zR gR
        have hpay : (s.extract k (k + gtLen s k + 12)).extract 4 (4 + gtLen s k) = s.extract (k + 4) (k + 4 + gtLen s k) := by
          rw [Nat.add_assoc, sub_ext _ _ _ _ _ (by omega), ← Nat.add_assoc]
        rw [hpay] at hi
        have ht := rec_take _ _ zR
        rw [hpay] at ht
        have hts := opA_size _ _ zR
        have ho := fun W => open_any ((s.extract k (k + gtLen s k + 12)).extract 0 (gtLen s k + 8)) W (by unfold maxLen at *; rw [ByteArray.size_extract]; omega)
        have hgo := gtOk_iff (s := s) (k := k)
        obtain ⟨hn1, hn2⟩ := h2
        generalize hRR : s.extract k (k + gtLen s k + 12) = R at *
        have e8 : R.size - 4 = gtLen s k + 8 := by omega
        by_cases hq : R.extract (gtLen s k + 8) (gtLen s k + 12) = R.extract 0 4
        · by_cases hop : opOk (R.extract 0 (gtLen s k + 8)) = true
          · obtain ⟨g1, g2, g3⟩ := gt_yes (hgo.2 ⟨h12, hn1, hn2, hi.2 ⟨hq, hop⟩⟩)
            rw [hop] at ho
            unfold GotRec
            rw [g1, g2, g3]
            have hy := rget_yes s k w hs hk R _ (by omega) (by omega) (by omega) hp ha (by rw [e8, zR]; exact hq) (by rw [e8]; exact ho) (by rw [hts hop]; omega) (by rw [hts hop]; omega)
            rw [ht hop, zR, show (k : Int) + ((gtLen s k + 12 : Nat) : Int) = ((k + gtLen s k + 12 : Nat) : Int) by omega] at hy
            exact hy
          · have hop' : opOk (R.extract 0 (gtLen s k + 8)) = false := by simpa using hop
            rw [hop'] at ho
            refine (rget_bad s k w hs hk R _ (by omega) (by omega) (by omega) hp ha (by rw [e8, zR]; exact hq) (by rw [e8]; exact ho)).mono fun e w' hn => got_no ?_ hn
            rw [getOk_nat]
            exact gtOk_false (fun q => hop (hi.1 (hRR.symm.trans q.2.2.2)).2)
        · refine (rget_two s k w hs hk R (by omega) (by omega) hp ha (by rw [e8, zR]; exact hq)).mono fun e w' hn => got_no ?_ hn
          rw [getOk_nat]
          exact gtOk_false (fun q => hq (hi.1 (hRR.symm.trans q.2.2.2)).1)
      · have hok : askOk (s.extract k s.size) = false := by
          unfold askOk
          rw [e4, hz]
          exact decide_eq_false (by omega)
        have hS : askS (s.extract k s.size) = ByteArray.empty := by unfold askS; rw [hok]; rfl
        rw [hok, hS] at ha
        refine (rget_none s k w hs hk hp ha).mono fun e w' hn => got_no ?_ hn
        rw [getOk_nat]
        exact gtOk_false (by omega)
    · have hok : askOk (s.extract k s.size) = false := by
        unfold askOk
        rw [hz]
        exact decide_eq_false (by omega)
      have hS : askS (s.extract k s.size) = ByteArray.empty := by unfold askS; rw [hok]; rfl
      rw [hok, hS] at ha
      refine (rget_none s k w hs hk hp ha).mono fun e w' hn => got_no ?_ hn
      rw [getOk_nat]
      exact gtOk_false (by omega)
end Go.Proofs.YtedbgimmbapfaaaGreat

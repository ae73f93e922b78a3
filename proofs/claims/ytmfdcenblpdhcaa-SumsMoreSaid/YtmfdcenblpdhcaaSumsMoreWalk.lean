/- The walk of annalistlaw02.SumsMore. -/
import Derived.Test.YtmfdcenblpdhcaaSumsEx
namespace Go.Proofs.Ytmfdcenblpdhcaa.sumsMoreW
open Go.RowKit
set_option linter.unusedVariables false

theorem long (s : ByteArray) (x y : Int) (hs : s.size ≤ maxLen) (h : 10000 < s.size) (w : World) :
    Calls Try.prog 5 #[.string s, .int .u16 x, .int .u16 y] w fun e w' => e = .returned (.bool true) ∧ Below w.heap.size w w' := by
  unfold maxLen at hs
  go_enter Try.func5, Try.ntmps5
  go_wp2_with fail
  refine (summed_true _).mono ?_
  rintro e w' ⟨rfl, hb⟩
  go_wp2
  go_ret
  exact ⟨rfl, ‹Below _ _ _›⟩

theorem tmod_nat (i n : Nat) : (i : Int).tmod ((n : Int) + 1) = ((i % (n + 1) : Nat) : Int) := by
  have e : (n : Int) + 1 = ((n + 1 : Nat) : Int) := by omega
  rw [e]; rfl

theorem ext_list (s : ByteArray) (a b : Nat) : (s.extract a b).data.toList = (s.data.toList.take b).drop a := by
  simp [List.drop_take]
theorem cut_sum (s : ByteArray) (a b : Nat) (hab : a ≤ b) (hb : b ≤ s.size) :
    moreS (moreS (sumS (s.extract 0 a).data.toList) (s.extract a b).data.toList) (s.extract b s.size).data.toList = sumS s.data.toList := by
  have hl : s.data.toList.length = s.size := Array.length_toList
  have e1 : (s.extract 0 a).data.toList ++ (s.extract a b).data.toList = s.data.toList.take b := by
    rw [ext_list, ext_list, List.drop_zero]
    have h := List.take_append_drop a (s.data.toList.take b)
    rw [List.take_take, Nat.min_eq_left hab] at h
    exact h
  have e2 : (s.extract b s.size).data.toList = s.data.toList.drop b := by
    rw [ext_list, List.take_of_length_le (by omega)]
  rw [moreS_sum, e1, e2, moreS_sum, List.take_append_drop]

theorem parts (s : ByteArray) (a b : Nat) (hab : a ≤ b) (hb : b ≤ s.size) (hs : s.size ≤ 10000) : ∃ A B X : Nat,
    (∀ w, Calls Try.prog 9 #[.string (s.extract 0 a)] w fun e w' => e = .returned (.int .u32 (A : Nat)) ∧ w = w') ∧
    (∀ w, Calls Try.prog 11 #[.int .u32 (A : Nat), .string (s.extract a b)] w fun e w' => e = .returned (.int .u32 (B : Nat)) ∧ w = w') ∧
    (∀ w, Calls Try.prog 11 #[.int .u32 (B : Nat), .string (s.extract b s.size)] w fun e w' => e = .returned (.int .u32 (X : Nat)) ∧ w = w') ∧
    (∀ w, Calls Try.prog 9 #[.string s] w fun e w' => e = .returned (.int .u32 (X : Nat)) ∧ w = w') ∧
    (∀ w, Calls Try.prog 11 #[.int .u32 0, .string s] w fun e w' => e = .returned (.int .u32 (X : Nat)) ∧ w = w') := by
  refine ⟨sumS (s.extract 0 a).data.toList, moreS (sumS (s.extract 0 a).data.toList) (s.extract a b).data.toList, sumS s.data.toList, ?_, ?_, ?_, ?_, ?_⟩
  · exact fun w => sum_any _ w (by unfold maxLen; rw [ByteArray.size_extract]; omega)
  · exact fun w => more_any _ _ w (sumS_lt _) (by unfold maxLen; rw [ByteArray.size_extract]; omega)
  · intro w
    rw [← cut_sum s a b hab hb]
    exact more_any _ _ w (moreS_lt _ _) (by unfold maxLen; rw [ByteArray.size_extract]; omega)
  · exact fun w => sum_any _ w (by unfold maxLen; omega)
  · exact fun w => more_any 0 _ w (by decide) (by unfold maxLen; omega)

theorem summed_in (w0 w : World) (h : Below w0.heap.size w0 w) : Calls Try.prog 8 #[] w fun e w' => e = .returned (.bool true) ∧ Below w0.heap.size w0 w' :=
  (summed_true w).mono fun e w' ⟨he, hb⟩ => ⟨he, h.trans (hb.mono h.size)⟩

set_option maxHeartbeats 1000000 in
theorem short (s : ByteArray) (i j : Nat) (hi : i < 65536) (hj : j < 65536) (hs : s.size ≤ 10000) (w : World) :
    Calls Try.prog 5 #[.string s, .int .u16 (i : Nat), .int .u16 (j : Nat)] w fun e w' => e = .returned (.bool true) ∧ Below w.heap.size w w' := by
  have x1 : IntKind.i64.wrap ((s.size : Int) + 1) = (s.size : Int) + 1 := IntWalk.i64_in _ (by omega)
  have x2 := tmod_nat i s.size
  have x3 := tmod_nat j s.size
  have p1 : i % (s.size + 1) < s.size + 1 := Nat.mod_lt _ (by omega)
  have q1 : j % (s.size + 1) < s.size + 1 := Nat.mod_lt _ (by omega)
  generalize i % (s.size + 1) = p at *
  generalize j % (s.size + 1) = q at *
  have p2 : (p : Int) ≤ (s.size : Int) := by omega
  have q2 : (q : Int) ≤ (s.size : Int) := by omega
  rcases Nat.lt_trichotomy p q with hpq | hpq | hpq
  · obtain ⟨A, B, X, h1, h2, h3, h4, h5⟩ := parts s p q (by omega) (by omega) hs
    have H1 := Lib.hid h1
    have H2 := Lib.hid h2
    have H3 := Lib.hid h3
    have H4 := Lib.hid h4
    have H5 := Lib.hid h5
    clear h1 h2 h3 h4 h5
    have p3 : (p : Int) ≤ (q : Int) := by omega
    go_enter Try.func5, Try.ntmps5
    go_wp2_with fail
    go_quiet (fail)
    clear x1 x2 x3
    go_wp2_with fail
    go_region_held3 (fun w' => Below w.heap.size w w') (first | assumption | exact (Below.refl _ _).drew | exact (below_drewN (Below.refl _ _) _).drew) (first
      | (go_at_call_of 9 (s.extract 0 p); refine (H1.out _).mono ?_; rintro e w' ⟨rfl, rfl⟩)
      | (go_at_call_of 11 (s.extract p q); refine (H2.out _).mono ?_; rintro e w' ⟨rfl, rfl⟩)
      | (go_at_call_of 11 (s.extract q s.size); refine (H3.out _).mono ?_; rintro e w' ⟨rfl, rfl⟩)
      | (go_at_call 9; refine (H4.out _).mono ?_; rintro e w' ⟨rfl, rfl⟩)
      | (go_at_call 11; refine (H5.out _).mono ?_; rintro e w' ⟨rfl, rfl⟩)
      | (go_at_call 8; refine (summed_in w _ (by assumption)).mono ?_; rintro e w' ⟨rfl, hb⟩))
    go_wp2
    go_ret
    exact ⟨rfl, ‹Below _ _ _›⟩
  · subst hpq
    obtain ⟨A, B, X, h1, h2, h3, h4, h5⟩ := parts s p p (by omega) (by omega) hs
    have he : s.extract p p = ByteArray.empty := by simp
    rw [he] at h2
    clear he
    have H1 := Lib.hid h1
    have H2 := Lib.hid h2
    have H3 := Lib.hid h3
    have H4 := Lib.hid h4
    have H5 := Lib.hid h5
    clear h1 h2 h3 h4 h5
    have p3 : (p : Int) ≤ (p : Int) := by omega
    go_enter Try.func5, Try.ntmps5
    go_wp2_with fail
    go_quiet (fail)
    clear x1 x2 x3
    go_wp2_with fail
    go_region_held3 (fun w' => Below w.heap.size w w') (first | assumption | exact (Below.refl _ _).drew | exact (below_drewN (Below.refl _ _) _).drew) (first
      | (go_at_call_of 9 (s.extract 0 p); refine (H1.out _).mono ?_; rintro e w' ⟨rfl, rfl⟩)
      | (go_at_call_of 11 ByteArray.empty; refine (H2.out _).mono ?_; rintro e w' ⟨rfl, rfl⟩)
      | (go_at_call_of 11 (s.extract p s.size); refine (H3.out _).mono ?_; rintro e w' ⟨rfl, rfl⟩)
      | (go_at_call 9; refine (H4.out _).mono ?_; rintro e w' ⟨rfl, rfl⟩)
      | (go_at_call 11; refine (H5.out _).mono ?_; rintro e w' ⟨rfl, rfl⟩)
      | (go_at_call 8; refine (summed_in w _ (by assumption)).mono ?_; rintro e w' ⟨rfl, hb⟩))
    go_wp2
    go_ret
    exact ⟨rfl, ‹Below _ _ _›⟩
  · obtain ⟨A, B, X, h1, h2, h3, h4, h5⟩ := parts s q p (by omega) (by omega) hs
    have H1 := Lib.hid h1
    have H2 := Lib.hid h2
    have H3 := Lib.hid h3
    have H4 := Lib.hid h4
    have H5 := Lib.hid h5
    clear h1 h2 h3 h4 h5
    have p3 : (q : Int) ≤ (p : Int) := by omega
    go_enter Try.func5, Try.ntmps5
    go_wp2_with fail
    go_quiet (fail)
    clear x1 x2 x3
    go_wp2_with fail
    go_region_held3 (fun w' => Below w.heap.size w w') (first | assumption | exact (Below.refl _ _).drew | exact (below_drewN (Below.refl _ _) _).drew) (first
      | (go_at_call_of 9 (s.extract 0 q); refine (H1.out _).mono ?_; rintro e w' ⟨rfl, rfl⟩)
      | (go_at_call_of 11 (s.extract q p); refine (H2.out _).mono ?_; rintro e w' ⟨rfl, rfl⟩)
      | (go_at_call_of 11 (s.extract p s.size); refine (H3.out _).mono ?_; rintro e w' ⟨rfl, rfl⟩)
      | (go_at_call 9; refine (H4.out _).mono ?_; rintro e w' ⟨rfl, rfl⟩)
      | (go_at_call 11; refine (H5.out _).mono ?_; rintro e w' ⟨rfl, rfl⟩)
      | (go_at_call 8; refine (summed_in w _ (by assumption)).mono ?_; rintro e w' ⟨rfl, hb⟩))
    go_wp2
    go_ret
    exact ⟨rfl, ‹Below _ _ _›⟩

theorem walk (a0 : ByteArray) (a1 a2 : Int) (w0 : a0.size ≤ maxLen) (w1 : (Lit.int .u16 a1).wf = true) (w2 : (Lit.int .u16 a2).wf = true) (w : World) :
    Calls Try.prog 5 #[.string a0, .int .u16 a1, .int .u16 a2] w fun e w' => e = .returned (.bool true) ∧ Below w.heap.size w w' := by
  by_cases h : a0.size ≤ 10000
  · obtain ⟨i, rfl, hi⟩ := u16_nat w1
    obtain ⟨j, rfl, hj⟩ := u16_nat w2
    exact short a0 i j hi hj h w
  · exact long a0 a1 a2 w0 (by omega) w
end Go.Proofs.Ytmfdcenblpdhcaa.sumsMoreW

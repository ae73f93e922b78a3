/- Check, Bytes and Same of events: the document's; what they stand on of weights. -/
import Derived.Test.YtnefofcofccmfaaEventsOne
import Derived.Test.YtnefofcofccmfaaNumsTextRef
import Derived.Test.YtnefofcofccmfaaNumsPutRef
import Derived.Laws.Bits64
namespace Go.Proofs.Ytnefofcofccmfaa
open Go.RowKit
set_option linter.unusedVariables false

theorem key_ref (b : Nat) (w : World) (hb : b < 18446744073709551616) :
    Calls Try.prog 53 #[.float .f64 b] w fun e w' => e = .returned (.int .u64 (keyS b : Nat)) ∧ w = w' := by
  have h1 := fun w => bits_run b w
  by_cases h : 9223372036854775808 ≤ b
  · have t : decide ((9223372036854775808 : Int) ≤ (b : Int)) = true := ge_yes h
    have e : (18446744073709551615 : Int) - (b : Int) = ((keyS b : Nat) : Int) := by unfold keyS; rw [if_neg (by omega)]; omega
    go_enter Try.func53, Try.ntmps53
    go_wp2
    go_ret
    exact ⟨rfl, rfl⟩
  · have t : decide ((9223372036854775808 : Int) ≤ (b : Int)) = false := ge_no h
    have e : (b : Int) + 9223372036854775808 = ((keyS b : Nat) : Int) := by unfold keyS; rw [if_pos (by omega)]; omega
    go_enter Try.func53, Try.ntmps53
    go_wp2
    go_ret
    exact ⟨rfl, rfl⟩

theorem wsame_ref (a b : Nat) (w : World) (ha : a < 18446744073709551616) (hb : b < 18446744073709551616) :
    Calls Try.prog 51 #[.float .f64 a, .float .f64 b] w fun e w' => e = .returned (.bool (decide (a = b))) ∧ w = w' := by
  have h1 := Lib.hid (fun w => key_ref a w ha)
  have h2 := Lib.hid (fun w => key_ref b w hb)
  have e : ((keyS a : Int) == (keyS b : Int)) = decide (a = b) := by
    by_cases h : a = b
    · subst h; simp
    · rw [decide_eq_false h]
      have : ¬ keyS a = keyS b := fun e => h (key_inj ha hb e)
      exact beq_eq_false_iff_ne.2 (by omega)
  generalize keyS a = x at *
  generalize keyS b = y at *
  generalize decide (a = b) = d at *
  clear ha hb
  go_enter Try.func51, Try.ntmps51
  go_wp2_with fail
  refine (h1.out _).mono ?_
  rintro e w' ⟨rfl, rfl⟩
  go_wp2_with fail
  refine (h2.out _).mono ?_
  rintro e w' ⟨rfl, rfl⟩
  go_wp2
  go_ret
  exact ⟨rfl, rfl⟩

theorem check_ref (t d : ByteArray) (b : Nat) (w : World) (ht : t.size ≤ maxLen) (hd : d.size ≤ maxLen) :
    Calls Try.prog 30 #[.agg #[.string t, .string d, .float .f64 b]] w fun e w' => e = .returned (.int .i64 (chk t d)) ∧ Below w.heap.size w w' := by
  unfold maxLen at ht hd
  by_cases h0 : t.size = 0
  · rw [chk_arg h0]
    go_enter Try.func30, Try.ntmps30
    go_wp2
    go_ret
    exact ⟨rfl, (Below.refl _ _).alloc (Nat.le_refl _) _⟩
  by_cases h1 : 16 < t.size
  · rw [chk_long h0 (by omega)]
    go_enter Try.func30, Try.ntmps30
    go_wp2
    go_ret
    exact ⟨rfl, (Below.refl _ _).alloc (Nat.le_refl _) _⟩
  by_cases h2 : 200 < d.size
  · rw [chk_long h0 (by omega)]
    go_enter Try.func30, Try.ntmps30
    go_wp2
    go_ret
    exact ⟨rfl, (Below.refl _ _).alloc (Nat.le_refl _) _⟩
  · rw [chk_ok h0 (by omega)]
    go_enter Try.func30, Try.ntmps30
    go_wp2
    go_ret
    exact ⟨rfl, (Below.refl _ _).alloc (Nat.le_refl _) _⟩

theorem textr_on (s : ByteArray) (hs : s.size ≤ 200) (W0 W : World) (h : Below W0.heap.size W0 W) :
    Calls Try.prog 26 #[.string s] W fun e w' => e = .returned (.string (bs (be 2 s.size) ++ s)) ∧ Below W0.heap.size W0 w' :=
  (textr_yes s W (by omega)).mono fun e w' ⟨he, hb⟩ => ⟨he, bj h hb⟩
theorem putr_on (b : Nat) (hb : b < 18446744073709551616) (W0 W : World) (h : Below W0.heap.size W0 W) :
    Calls Try.prog 27 #[.int .u64 (b : Nat), .int .i64 8] W fun e w' => e = .returned (.string (bs (be 8 b))) ∧ Below W0.heap.size W0 w' :=
  (putr_some b 8 W (by omega) (by omega) hb).mono fun e w' ⟨he, hb⟩ => ⟨he, bj h hb⟩

theorem bytesr_no (t d : ByteArray) (b : Nat) (w : World) (ht : t.size ≤ maxLen) (hd : d.size ≤ maxLen) (h : ¬ chk t d = 0) :
    Calls Try.prog 28 #[.agg #[.string t, .string d, .float .f64 b]] w fun e w' => e = .returned (.string ByteArray.empty) ∧ Below w.heap.size w w' := by
  have Hc := fun W => check_ref t d b W ht hd
  rcases chk_cases t d with hk | hk | hk
  · exact absurd hk h
  all_goals
    rw [hk] at Hc
    have HC := Lib.hid Hc
    clear Hc hk h ht hd
    go_enter Try.func28, Try.ntmps28
    go_wp2_with fail
    refine (HC.out _).mono ?_
    rintro e w1 ⟨rfl, hb1⟩
    go_wp2
    go_ret
    exact ⟨rfl, ((Below.refl _ _).alloc (Nat.le_refl _) _).trans (hb1.mono (by simp))⟩

set_option maxHeartbeats 1600000 in
set_option maxRecDepth 100000 in
theorem bytesr_yes (t d : ByteArray) (b : Nat) (w : World) (hb : b < 18446744073709551616) (h : chk t d = 0) :
    Calls Try.prog 28 #[.agg #[.string t, .string d, .float .f64 b]] w fun e w' => e = .returned (.string (evB t d b)) ∧ Below w.heap.size w w' := by
  have hz := chk_zero.1 h
  have Hc := fun W => check_ref t d b W (by unfold maxLen; omega) (by unfold maxLen; omega)
  rw [h] at Hc
  have HC := Lib.hid Hc
  have HT := Lib.hid (textr_on t (by omega))
  have HD := Lib.hid (textr_on d (by omega))
  have HP := Lib.hid (putr_on b hb)
  have HB := fun w => bits_run b w
  have s1 : (bs (be 2 t.size) ++ t).size = t.size + 2 := by rw [ByteArray.size_append, bs_size, be_length]; omega
  have s2 : (bs (be 2 d.size) ++ d).size = d.size + 2 := by rw [ByteArray.size_append, bs_size, be_length]; omega
  have s3 : (bs (be 8 b)).size = 8 := by rw [bs_size, be_length]
  have e : evB t d b = bs (be 2 t.size) ++ t ++ (bs (be 2 d.size) ++ d) ++ bs (be 8 b) := rfl
  have a1 : ∀ w : World, (Op.stringOp .add (bs (be 2 t.size) ++ t) (bs (be 2 d.size) ++ d)).run Try.prog w = .ok (.string (bs (be 2 t.size) ++ t ++ (bs (be 2 d.size) ++ d))) w := fun w => run_string_add_sum (P := Try.prog) (w := w) _ _ (by omega)
  have s4 : (bs (be 2 t.size) ++ t ++ (bs (be 2 d.size) ++ d)).size = t.size + 2 + (d.size + 2) := by rw [ByteArray.size_append, s1, s2]
  have a2 : ∀ w : World, (Op.stringOp .add (bs (be 2 t.size) ++ t ++ (bs (be 2 d.size) ++ d)) (bs (be 8 b))).run Try.prog w = .ok (.string (evB t d b)) w := fun w => run_string_add_sum (P := Try.prog) (w := w) _ _ (by omega)
  generalize evB t d b = B at *
  generalize bs (be 2 t.size) ++ t ++ (bs (be 2 d.size) ++ d) = X at *
  generalize bs (be 2 t.size) ++ t = T at *
  generalize bs (be 2 d.size) ++ d = D at *
  generalize bs (be 8 b) = Q at *
  clear s1 s2 s3 s4 e Hc h hz hb
  go_enter Try.func28, Try.ntmps28
  go_wp2_with fail
  refine (HC.out _).mono ?_
  rintro e w1 ⟨rfl, hb1⟩
  have hz1 := hb1.size
  rw [World.size_alloc] at hz1
  have k0 : w1.cell? ⟨w.heap.size, 0, none⟩ = some (.string t) := keep_cell hb1 (by simp) (World.cell?_alloc_at _ _ _ _ rfl)
  have k1 : w1.cell? ⟨w.heap.size, 1, none⟩ = some (.string d) := keep_cell hb1 (by simp) (World.cell?_alloc_at _ _ _ _ rfl)
  have k2 : w1.cell? ⟨w.heap.size, 2, none⟩ = some (.float .f64 b) := keep_cell hb1 (by simp) (World.cell?_alloc_at _ _ _ _ rfl)
  have hbw : Below w.heap.size w w1 := ((Below.refl _ _).alloc (Nat.le_refl _) _).trans (hb1.mono (by simp))
  have HS : Hid (∀ W, Below w1.heap.size w1 W → Below w1.heap.size w1 W ∧ W.cell? ⟨w.heap.size, 0, none⟩ = some (.string t) ∧ W.cell? ⟨w.heap.size, 1, none⟩ = some (.string d) ∧ W.cell? ⟨w.heap.size, 2, none⟩ = some (.float .f64 b)) :=
    Lib.hid fun W hW => ⟨hW, keep_cell hW (show w.heap.size < _ by omega) k0, keep_cell hW (show w.heap.size < _ by omega) k1, keep_cell hW (show w.heap.size < _ by omega) k2⟩
  have HT2 := Lib.hid fun W (h : Below w1.heap.size w1 W ∧ W.cell? ⟨w.heap.size, 0, none⟩ = some (.string t) ∧ W.cell? ⟨w.heap.size, 1, none⟩ = some (.string d) ∧ W.cell? ⟨w.heap.size, 2, none⟩ = some (.float .f64 b)) => HT.out w1 W h.1
  have HD2 := Lib.hid fun W (h : Below w1.heap.size w1 W ∧ W.cell? ⟨w.heap.size, 0, none⟩ = some (.string t) ∧ W.cell? ⟨w.heap.size, 1, none⟩ = some (.string d) ∧ W.cell? ⟨w.heap.size, 2, none⟩ = some (.float .f64 b)) => HD.out w1 W h.1
  have HP2 := Lib.hid fun W (h : Below w1.heap.size w1 W ∧ W.cell? ⟨w.heap.size, 0, none⟩ = some (.string t) ∧ W.cell? ⟨w.heap.size, 1, none⟩ = some (.string d) ∧ W.cell? ⟨w.heap.size, 2, none⟩ = some (.float .f64 b)) => HP.out w1 W h.1
  clear hb1 HT HD HP
  go_wp2_with fail
  go_region_held3 (fun W => Below w1.heap.size w1 W ∧ W.cell? ⟨w.heap.size, 0, none⟩ = some (.string t) ∧ W.cell? ⟨w.heap.size, 1, none⟩ = some (.string d) ∧ W.cell? ⟨w.heap.size, 2, none⟩ = some (.float .f64 b))
    (first | assumption | exact HS.out _ (by assumption) | exact HS.out _ (Below.refl _ _).drew | fail) (first
    | (go_at_call 26; ((with_reducible refine (HT2.out _ (by assumption)).mono ?_); rintro e w' ⟨rfl, hb⟩))
    | (go_at_call 26; ((with_reducible refine (HD2.out _ (by assumption)).mono ?_); rintro e w' ⟨rfl, hb⟩))
    | (go_at_call 27; ((with_reducible refine (HP2.out _ (by assumption)).mono ?_); rintro e w' ⟨rfl, hb⟩))
    | fail)
  all_goals
    go_wp2
    go_ret
    exact ⟨rfl, hbw.trans ((And.left (‹Below w1.heap.size w1 _ ∧ _›)).mono hbw.size)⟩

set_option maxHeartbeats 800000 in
theorem same_ref (t d : ByteArray) (b : Nat) (t' d' : ByteArray) (b' : Nat) (w : World) (hb : b < 18446744073709551616) (hb' : b' < 18446744073709551616) :
    Calls Try.prog 43 #[.agg #[.string t, .string d, .float .f64 b], .agg #[.string t', .string d', .float .f64 b']] w fun e w' => e = .returned (.bool (evEq t d b t' d' b')) ∧ Below w.heap.size w w' := by
  have HW := Lib.hid fun W => wsame_ref b b' W hb hb'
  have hbel : Below w.heap.size w ((w.alloc (.cells #[.string t, .string d, .float .f64 b] 47)).alloc (.cells #[.string t', .string d', .float .f64 b'] 47)) := ((Below.refl _ _).alloc (Nat.le_refl _) _).alloc (by simp) _
  unfold evEq
  generalize decide (b = b') = q at *
  clear hb hb'
  by_cases h1 : t = t'
  · have e1 := txt_eq h1
    rw [decide_eq_true h1]
    clear h1
    by_cases h2 : d = d'
    · have e2 := txt_eq h2
      rw [decide_eq_true h2]
      clear h2
      go_enter Try.func43, Try.ntmps43
      go_wp2_with fail
      refine (HW.out _).mono ?_
      rintro e w' ⟨rfl, rfl⟩
      go_wp2
      go_ret
      exact ⟨rfl, hbel⟩
    · have e2 := txt_ne h2
      rw [decide_eq_false h2]
      clear h2
      go_enter Try.func43, Try.ntmps43
      go_wp2_with fail
      go_ret
      exact ⟨rfl, hbel⟩
  · have e1 := txt_ne h1
    rw [decide_eq_false h1]
    clear h1
    go_enter Try.func43, Try.ntmps43
    go_wp2_with fail
    go_ret
    exact ⟨rfl, hbel⟩
end Go.Proofs.Ytnefofcofccmfaa

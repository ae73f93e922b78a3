/- Check, Bytes and Same of events: the program's; what they stand on of weights. -/
import Derived.Test.YtnefofcofccmfaaEventsMath
import Derived.Test.YtnefofcofccmfaaFloatFrom
import Derived.Test.YtnefofcofccmfaaFloatMath
import Derived.Deep.RegionHeld3
import Derived.Lib.IndexBytes
namespace Go.Proofs.Ytnefofcofccmfaa
open Go.RowKit
set_option linter.unusedVariables false

theorem bits_run (b : Nat) (w : World) : (callFunc 40 #[.float .f64 b]).run Try.prog w = .ok (.value (.int .u64 (b : Nat))) w := by
  rw [run_callFunc_extern Try.func40 (by kernel_rfl) (by kernel_rfl) (by kernel_rfl) (e := Extern.MathFloatBits.float64bits) (by kernel_rfl)]
  rfl
theorem wsame_any (a b : Nat) (w : World) (ha : a < 18446744073709551616) (hb : b < 18446744073709551616) :
    Calls Try.prog 50 #[.float .f64 a, .float .f64 b] w fun e w' => e = .returned (.bool (decide (a = b))) ∧ w = w' := by
  have h1 := fun w => bits_run a w
  have h2 := fun w => bits_run b w
  have e : ((a : Int) == (b : Int)) = decide (a = b) := by
    by_cases h : a = b
    · subst h; simp
    · rw [decide_eq_false h]
      exact beq_eq_false_iff_ne.2 (by omega)
  clear ha hb
  go_enter Try.func50, Try.ntmps50
  go_wp2
  go_ret
  exact ⟨rfl, rfl⟩

theorem check_any (t d : ByteArray) (b : Nat) (w : World) (ht : t.size ≤ maxLen) (hd : d.size ≤ maxLen) :
    Calls Try.prog 39 #[.agg #[.string t, .string d, .float .f64 b]] w fun e w' => e = .returned (.int .i64 (chk t d)) ∧ Below w.heap.size w w' := by
  unfold maxLen at ht hd
  by_cases h0 : t.size = 0
  · rw [chk_arg h0]
    go_enter Try.func39, Try.ntmps39
    go_wp2
    go_ret
    exact ⟨rfl, (Below.refl _ _).alloc (Nat.le_refl _) _⟩
  by_cases h1 : 16 < t.size
  · rw [chk_long h0 (by omega)]
    go_enter Try.func39, Try.ntmps39
    go_wp2
    go_ret
    exact ⟨rfl, (Below.refl _ _).alloc (Nat.le_refl _) _⟩
  by_cases h2 : 200 < d.size
  · rw [chk_long h0 (by omega)]
    go_enter Try.func39, Try.ntmps39
    go_wp2
    go_ret
    exact ⟨rfl, (Below.refl _ _).alloc (Nat.le_refl _) _⟩
  · rw [chk_ok h0 (by omega)]
    go_enter Try.func39, Try.ntmps39
    go_wp2
    go_ret
    exact ⟨rfl, (Below.refl _ _).alloc (Nat.le_refl _) _⟩

/-- What lay stays, what was new goes on. -/
theorem on_below {W0 W W' : World} (h : Below W0.heap.size W0 W) (k : Below W.heap.size W W') : Below W0.heap.size W0 W' := bj h k
theorem keep_cell {W0 W : World} {p : Addr} {v : Value} (h : Below W0.heap.size W0 W) (hp : p.block < W0.heap.size) (hc : W0.cell? p = some v) : W.cell? p = some v := (h.cell hp).trans hc
theorem keep_mark {W0 W : World} {p : Addr} {v : Bool} (h : Below W0.heap.size W0 W) (hp : p.block < W0.heap.size) (hc : W0.frozen? p = v) : W.frozen? p = v := (h.frozen hp).trans hc

theorem text_on (s : ByteArray) (hs : s.size ≤ 200) (W0 W : World) (h : Below W0.heap.size W0 W) :
    Calls Try.prog 22 #[.string s] W fun e w' => e = .returned (.string (bs (be 2 s.size) ++ s)) ∧ Below W0.heap.size W0 w' :=
  (text_yes s W (by omega)).mono fun e w' ⟨he, hb⟩ => ⟨he, bj h hb⟩
theorem put_on (b : Nat) (hb : b < 18446744073709551616) (W0 W : World) (h : Below W0.heap.size W0 W) :
    Calls Try.prog 23 #[.int .u64 (b : Nat), .int .i64 8] W fun e w' => e = .returned (.string (bs (be 8 b))) ∧ Below W0.heap.size W0 w' :=
  (put_some b 8 W (by omega) (by omega) hb).mono fun e w' ⟨he, hb⟩ => ⟨he, bj h hb⟩

theorem bytes_no (t d : ByteArray) (b : Nat) (w : World) (ht : t.size ≤ maxLen) (hd : d.size ≤ maxLen) (h : ¬ chk t d = 0) :
    Calls Try.prog 24 #[.agg #[.string t, .string d, .float .f64 b]] w fun e w' => e = .returned (.string ByteArray.empty) ∧ Below w.heap.size w w' := by
  have Hc := fun W => check_any t d b W ht hd
  rcases chk_cases t d with hk | hk | hk
  · exact absurd hk h
  all_goals
    rw [hk] at Hc
    have HC := Lib.hid Hc
    clear Hc hk h ht hd
    go_enter Try.func24, Try.ntmps24
    go_wp2_with fail
    refine (HC.out _).mono ?_
    rintro e w1 ⟨rfl, hb1⟩
    go_wp2
    go_ret
    exact ⟨rfl, ((Below.refl _ _).alloc (Nat.le_refl _) _).trans (hb1.mono (by simp))⟩

set_option maxHeartbeats 1600000 in
set_option maxRecDepth 100000 in
theorem bytes_yes (t d : ByteArray) (b : Nat) (w : World) (hb : b < 18446744073709551616) (h : chk t d = 0) :
    Calls Try.prog 24 #[.agg #[.string t, .string d, .float .f64 b]] w fun e w' => e = .returned (.string (evB t d b)) ∧ Below w.heap.size w w' := by
  have hz := chk_zero.1 h
  have Hc := fun W => check_any t d b W (by unfold maxLen; omega) (by unfold maxLen; omega)
  rw [h] at Hc
  have HC := Lib.hid Hc
  have HT := Lib.hid (text_on t (by omega))
  have HD := Lib.hid (text_on d (by omega))
  have HP := Lib.hid (put_on b hb)
  have HB := fun w => bits_run b w
  have s1 : (bs (be 2 t.size) ++ t).size = t.size + 2 := by rw [ByteArray.size_append, bs_size, be_length]; omega
  have s2 : (bs (be 2 d.size) ++ d).size = d.size + 2 := by rw [ByteArray.size_append, bs_size, be_length]; omega
  have s3 : (bs (be 8 b)).size = 8 := by rw [bs_size, be_length]
  have e : evB t d b = bs (be 2 t.size) ++ t ++ (bs (be 2 d.size) ++ d) ++ bs (be 8 b) := rfl
  have a1 : ∀ w : World, (Op.stringOp .add (bs (be 2 t.size) ++ t) (bs (be 2 d.size) ++ d)).run Try.prog w = .ok (.string (bs (be 2 t.size) ++ t ++ (bs (be 2 d.size) ++ d))) w := fun w => run_string_add_sum (P := Try.prog) (w := w) _ _ (by omega)
  have s4 : (bs (be 2 t.size) ++ t ++ (bs (be 2 d.size) ++ d)).size = t.size + 2 + (d.size + 2) := by rw [ByteArray.size_append, s1, s2]
  have a2 : ∀ w : World, (Op.stringOp .add (bs (be 2 t.size) ++ t ++ (bs (be 2 d.size) ++ d)) (bs (be 8 b))).run Try.prog w = .ok (.string (evB t d b)) w := fun w => run_string_add_sum (P := Try.prog) (w := w) _ _ (by omega)
  generalize evB t d b = B at *
  generalize bs (be 2 t.size) ++ t ++ (bs (be 2 d.size) ++ d) = X at *
  generalize bs (be 2 t.size) ++ t = T at *
  generalize bs (be 2 d.size) ++ d = D at *
  generalize bs (be 8 b) = Q at *
  clear s1 s2 s3 s4 e Hc h hz hb
  go_enter Try.func24, Try.ntmps24
  go_wp2_with fail
  refine (HC.out _).mono ?_
  rintro e w1 ⟨rfl, hb1⟩
  have hz1 := hb1.size
  rw [World.size_alloc] at hz1
  have k0 : w1.cell? ⟨w.heap.size, 0, none⟩ = some (.string t) := keep_cell hb1 (by simp) (World.cell?_alloc_at _ _ _ _ rfl)
  have k1 : w1.cell? ⟨w.heap.size, 1, none⟩ = some (.string d) := keep_cell hb1 (by simp) (World.cell?_alloc_at _ _ _ _ rfl)
  have k2 : w1.cell? ⟨w.heap.size, 2, none⟩ = some (.float .f64 b) := keep_cell hb1 (by simp) (World.cell?_alloc_at _ _ _ _ rfl)
  have hbw : Below w.heap.size w w1 := ((Below.refl _ _).alloc (Nat.le_refl _) _).trans (hb1.mono (by simp))
  have HS : Hid (∀ W, Below w1.heap.size w1 W → Below w1.heap.size w1 W ∧ W.cell? ⟨w.heap.size, 0, none⟩ = some (.string t) ∧ W.cell? ⟨w.heap.size, 1, none⟩ = some (.string d) ∧ W.cell? ⟨w.heap.size, 2, none⟩ = some (.float .f64 b)) :=
    Lib.hid fun W hW => ⟨hW, keep_cell hW (show w.heap.size < _ by omega) k0, keep_cell hW (show w.heap.size < _ by omega) k1, keep_cell hW (show w.heap.size < _ by omega) k2⟩
  have HT2 := Lib.hid fun W (h : Below w1.heap.size w1 W ∧ W.cell? ⟨w.heap.size, 0, none⟩ = some (.string t) ∧ W.cell? ⟨w.heap.size, 1, none⟩ = some (.string d) ∧ W.cell? ⟨w.heap.size, 2, none⟩ = some (.float .f64 b)) => HT.out w1 W h.1
  have HD2 := Lib.hid fun W (h : Below w1.heap.size w1 W ∧ W.cell? ⟨w.heap.size, 0, none⟩ = some (.string t) ∧ W.cell? ⟨w.heap.size, 1, none⟩ = some (.string d) ∧ W.cell? ⟨w.heap.size, 2, none⟩ = some (.float .f64 b)) => HD.out w1 W h.1
  have HP2 := Lib.hid fun W (h : Below w1.heap.size w1 W ∧ W.cell? ⟨w.heap.size, 0, none⟩ = some (.string t) ∧ W.cell? ⟨w.heap.size, 1, none⟩ = some (.string d) ∧ W.cell? ⟨w.heap.size, 2, none⟩ = some (.float .f64 b)) => HP.out w1 W h.1
  clear hb1 HT HD HP
  go_wp2_with fail
  go_region_held3 (fun W => Below w1.heap.size w1 W ∧ W.cell? ⟨w.heap.size, 0, none⟩ = some (.string t) ∧ W.cell? ⟨w.heap.size, 1, none⟩ = some (.string d) ∧ W.cell? ⟨w.heap.size, 2, none⟩ = some (.float .f64 b))
    (first | assumption | exact HS.out _ (by assumption) | exact HS.out _ (Below.refl _ _).drew | fail) (first
    | (go_at_call 22; ((with_reducible refine (HT2.out _ (by assumption)).mono ?_); rintro e w' ⟨rfl, hb⟩))
    | (go_at_call 22; ((with_reducible refine (HD2.out _ (by assumption)).mono ?_); rintro e w' ⟨rfl, hb⟩))
    | (go_at_call 23; ((with_reducible refine (HP2.out _ (by assumption)).mono ?_); rintro e w' ⟨rfl, hb⟩))
    | fail)
  all_goals
    go_wp2
    go_ret
    exact ⟨rfl, hbw.trans ((And.left (‹Below w1.heap.size w1 _ ∧ _›)).mono hbw.size)⟩

theorem txt_eq {a b : ByteArray} (h : a = b) : (a.toList == b.toList) = true := by rw [h, beq_iff_eq]
theorem txt_ne {a b : ByteArray} (h : ¬ a = b) : (a.toList == b.toList) = false := by
  rw [beq_eq_false_iff_ne]
  intro x
  rw [Lib.toList_data, Lib.toList_data] at x
  exact h (ByteArray.ext (Array.toList_inj.1 x))

set_option maxHeartbeats 800000 in
theorem same_any (t d : ByteArray) (b : Nat) (t' d' : ByteArray) (b' : Nat) (w : World) (hb : b < 18446744073709551616) (hb' : b' < 18446744073709551616) :
    Calls Try.prog 42 #[.agg #[.string t, .string d, .float .f64 b], .agg #[.string t', .string d', .float .f64 b']] w fun e w' => e = .returned (.bool (evEq t d b t' d' b')) ∧ Below w.heap.size w w' := by
  have HW := Lib.hid fun W => wsame_any b b' W hb hb'
  have hbel : Below w.heap.size w ((w.alloc (.cells #[.string t, .string d, .float .f64 b] 47)).alloc (.cells #[.string t', .string d', .float .f64 b'] 47)) := ((Below.refl _ _).alloc (Nat.le_refl _) _).alloc (by simp) _
  unfold evEq
  generalize decide (b = b') = q at *
  clear hb hb'
  by_cases h1 : t = t'
  · have e1 := txt_eq h1
    rw [decide_eq_true h1]
    clear h1
    by_cases h2 : d = d'
    · have e2 := txt_eq h2
      rw [decide_eq_true h2]
      clear h2
      go_enter Try.func42, Try.ntmps42
      go_wp2_with fail
      refine (HW.out _).mono ?_
      rintro e w' ⟨rfl, rfl⟩
      go_wp2
      go_ret
      exact ⟨rfl, hbel⟩
    · have e2 := txt_ne h2
      rw [decide_eq_false h2]
      clear h2
      go_enter Try.func42, Try.ntmps42
      go_wp2_with fail
      go_ret
      exact ⟨rfl, hbel⟩
  · have e1 := txt_ne h1
    rw [decide_eq_false h1]
    clear h1
    go_enter Try.func42, Try.ntmps42
    go_wp2_with fail
    go_ret
    exact ⟨rfl, hbel⟩
end Go.Proofs.Ytnefofcofccmfaa

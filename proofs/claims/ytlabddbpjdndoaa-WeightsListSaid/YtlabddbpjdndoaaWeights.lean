/- Key, Back, Same, Less, Class: the program's. -/
import Derived.Test.YtlabddbpjdndoaaFloatLike
namespace Go.Proofs.Ytlabddbpjdndoaa
open Go.RowKit
set_option linter.unusedVariables false

/-- The highest bit of a word, and the others, in the walks' words. -/
theorem top_and (b : Nat) : b &&& 9223372036854775808 = if 9223372036854775808 ≤ b % 18446744073709551616 then 9223372036854775808 else 0 := by
  have e : (9223372036854775808 : Nat) = 2 ^ 63 := by decide
  rw [e, nat_bit 63 b, ← e]
  split <;> omega
theorem top_set {b : Nat} (hb : b < 18446744073709551616) (h : 9223372036854775808 ≤ b) : bits .and .u64 (b : Int) 9223372036854775808 = 9223372036854775808 := by
  have h1 := u64_and_nat b 9223372036854775808 hb (by decide)
  rw [top_and, if_pos (by omega)] at h1
  exact h1
theorem top_clear {b : Nat} (hb : b < 18446744073709551616) (h : ¬ 9223372036854775808 ≤ b) : bits .and .u64 (b : Int) 9223372036854775808 = 0 := by
  have h1 := u64_and_nat b 9223372036854775808 hb (by decide)
  rw [top_and, if_neg (by omega)] at h1
  exact h1
theorem top_or {b : Nat} (h : b < 9223372036854775808) : bits .or .u64 (b : Int) 9223372036854775808 = ((b + 9223372036854775808 : Nat) : Int) := by
  have h1 := u64_or_nat b 9223372036854775808 (by omega) (by decide)
  have h2 := nat_join 63 9223372036854775808 b (by decide) h
  rw [Nat.or_comm] at h2
  rw [h2] at h1
  have h3 : bits .or .u64 (b : Int) 9223372036854775808 = ((9223372036854775808 + b : Nat) : Int) := h1
  rw [h3]
  omega
theorem word_not {b : Nat} (hb : b < 18446744073709551616) : bits .xor .u64 IntKind.u64.max (b : Int) = ((18446744073709551615 - b : Nat) : Int) := by
  have e : IntKind.u64.max = ((18446744073709551615 : Nat) : Int) := by decide
  have h1 := u64_xor_nat 18446744073709551615 b (by decide) hb
  rw [e, h1]
  congr 1
  have h2 : 18446744073709551615 ^^^ b = 18446744073709551615 - b := by
    have h3 : (18446744073709551615 : Nat) = 2 ^ 64 - 1 := by decide
    have h4 := BitVec.toNat_not (x := BitVec.ofNat 64 b)
    rw [BitVec.toNat_ofNat, Nat.mod_eq_of_lt hb] at h4
    have h5 : ~~~(BitVec.ofNat 64 b) = BitVec.allOnes 64 ^^^ BitVec.ofNat 64 b := by rw [BitVec.allOnes_xor]
    rw [h5, BitVec.toNat_xor, BitVec.toNat_allOnes, BitVec.toNat_ofNat, Nat.mod_eq_of_lt hb] at h4
    rw [h3]
    rw [h4]
  exact h2
theorem top_off {b : Nat} (hb : b < 18446744073709551616) (h : 9223372036854775808 ≤ b) : bits .andNot .u64 (b : Int) 9223372036854775808 = ((b - 9223372036854775808 : Nat) : Int) := by
  have h1 := u64_andNot_nat b 9223372036854775808 hb (by decide)
  have h2 : b &&& (18446744073709551615 - 9223372036854775808) = b - 9223372036854775808 := by
    have e : 18446744073709551615 - 9223372036854775808 = 2 ^ 63 - 1 := by decide
    rw [e, Nat.and_two_pow_sub_one_eq_mod]
    omega
  rw [h2] at h1
  exact h1

theorem key_any (b : Nat) (w : World) (hb : b < 18446744073709551616) :
    Calls Try.prog 10 #[.float .f64 b] w fun e w' => e = .returned (.int .u64 (keyS b : Nat)) ∧ w = w' := by
  have h1 := fun w => bits_run b w
  by_cases h : 9223372036854775808 ≤ b
  · have t := top_set hb h
    have e : bits .xor .u64 IntKind.u64.max (b : Int) = ((keyS b : Nat) : Int) := by rw [word_not hb]; unfold keyS; rw [if_neg (by omega)]
    clear hb h
    go_enter Try.func10, Try.ntmps10
    go_wp2
    go_ret
    exact ⟨rfl, rfl⟩
  · have t := top_clear hb h
    have e : bits .or .u64 (b : Int) 9223372036854775808 = ((keyS b : Nat) : Int) := by rw [top_or (by omega)]; unfold keyS; rw [if_pos (by omega)]
    clear hb h
    go_enter Try.func10, Try.ntmps10
    go_wp2
    go_ret
    exact ⟨rfl, rfl⟩
theorem back_any (b : Nat) (w : World) (hb : b < 18446744073709551616) :
    Calls Try.prog 13 #[.int .u64 (b : Nat)] w fun e w' => e = .returned (.float .f64 (backS b)) ∧ w = w' := by
  have h1 := fun b w => frombits_run b w
  by_cases h : 9223372036854775808 ≤ b
  · have t := top_set hb h
    have e : bits .andNot .u64 (b : Int) 9223372036854775808 = ((backS b : Nat) : Int) := by rw [top_off hb h]; unfold backS; rw [if_neg (by omega)]
    clear hb h
    go_enter Try.func13, Try.ntmps13
    go_wp2
    go_ret
    exact ⟨rfl, rfl⟩
  · have t := top_clear hb h
    have e : bits .xor .u64 IntKind.u64.max (b : Int) = ((backS b : Nat) : Int) := by rw [word_not hb]; unfold backS; rw [if_pos (by omega)]
    clear hb h
    go_enter Try.func13, Try.ntmps13
    go_wp2
    go_ret
    exact ⟨rfl, rfl⟩
theorem same_any (a b : Nat) (w : World) (ha : a < 18446744073709551616) (hb : b < 18446744073709551616) :
    Calls Try.prog 17 #[.float .f64 a, .float .f64 b] w fun e w' => e = .returned (.bool (decide (a = b))) ∧ w = w' := by
  have h1 := fun w => bits_run a w
  have h2 := fun w => bits_run b w
  have e : ((a : Int) == (b : Int)) = decide (a = b) := by
    by_cases h : a = b
    · subst h; simp
    · rw [decide_eq_false h]
      exact beq_eq_false_iff_ne.2 (by omega)
  clear ha hb
  go_enter Try.func17, Try.ntmps17
  go_wp2
  go_ret
  exact ⟨rfl, rfl⟩
theorem less_any (a b : Nat) (w : World) (ha : a < 18446744073709551616) (hb : b < 18446744073709551616) :
    Calls Try.prog 18 #[.float .f64 a, .float .f64 b] w fun e w' => e = .returned (.bool (decide (keyS a < keyS b))) ∧ w = w' := by
  have h1 := Lib.hid (fun w => key_any a w ha)
  have h2 := Lib.hid (fun w => key_any b w hb)
  generalize keyS a = x at *
  generalize keyS b = y at *
  clear ha hb
  go_enter Try.func18, Try.ntmps18
  go_wp2_with fail
  refine (h1.out _).mono ?_
  rintro e w' ⟨rfl, rfl⟩
  go_wp2_with fail
  refine (h2.out _).mono ?_
  rintro e w' ⟨rfl, rfl⟩
  go_wp2
  go_ret
  exact ⟨rfl, rfl⟩

/-- A number with its sign turned over. -/
def flipS (b : Nat) : Nat := if b < 9223372036854775808 then b + 9223372036854775808 else b - 9223372036854775808
theorem flip_lt {b : Nat} (h : b < 18446744073709551616) : flipS b < 18446744073709551616 := by unfold flipS; split <;> omega
theorem flip_xor {b : Nat} (h : b < 18446744073709551616) : b ^^^ 9223372036854775808 = flipS b := by
  have m := Nat.xor_mod_two_pow (a := b) (b := 9223372036854775808) (n := 63)
  have d := Nat.xor_div_two_pow (a := b) (b := 9223372036854775808) (n := 63)
  rw [show (9223372036854775808 : Nat) % 2 ^ 63 = 0 by decide, Nat.xor_zero] at m
  rw [show (9223372036854775808 : Nat) / 2 ^ 63 = 1 by decide] at d
  rw [show (2 : Nat) ^ 63 = 9223372036854775808 by decide] at m d
  generalize b ^^^ 9223372036854775808 = x at *
  unfold flipS
  by_cases q : b < 9223372036854775808
  · rw [show b / 9223372036854775808 = 0 by omega, Nat.zero_xor] at d
    rw [if_pos q]
    omega
  · rw [show b / 9223372036854775808 = 1 by omega, show (1 ^^^ 1 : Nat) = 0 by decide] at d
    rw [if_neg q]
    omega
theorem neg_flip {b : Nat} (h : b < 18446744073709551616) : Go.Op.negFloat .f64 b = flipS b := flip_xor h
theorem nan_flip (b : Nat) : nanB (flipS b) = nanB b := by
  unfold nanB flipS
  congr 1
  split <;> (apply propext; omega)
theorem sr_flip {b : Nat} (h : b < 18446744073709551616) : sr (flipS b) = -sr b := by
  unfold sr flipS
  split <;> split <;> omega

/-- The classes, as the tests of the program tell them. -/
def downB (b : Nat) : Bool := !nanB b && decide (sr b < -9218868437227405311)
def upB (b : Nat) : Bool := !nanB b && decide (9218868437227405311 < sr b)
theorem class_tests {b : Nat} (hb : b < 18446744073709551616) :
    classS b = if nanB b then 0 else if downB b then 1 else if upB b then 5 else if (!nanB b && decide (sr b < 0)) then 2 else if (!nanB b && decide (0 < sr b)) then 4 else 3 := by
  unfold classS downB upB nanB sr
  by_cases h1 : 9218868437227405312 < b % 9223372036854775808
  · rw [if_pos h1, decide_eq_true h1, if_pos rfl]
  · rw [if_neg h1, decide_eq_false h1]
    simp only [Bool.not_false, Bool.true_and, Bool.false_eq_true, if_false, decide_eq_true_eq]
    by_cases h2 : b < 9223372036854775808
    · simp only [if_pos h2]
      repeat' split
      all_goals omega
    · simp only [if_neg h2]
      repeat' split
      all_goals omega

theorem isnan_any (b : Nat) (w : World) (hb : b < 18446744073709551616) :
    Calls Try.prog 27 #[.float .f64 b] w fun e w' => e = .returned (.bool (nanB b)) ∧ w = w' := by
  have o1 : (FloatKind.f64.format.order b b != some Ordering.eq) = nanB b := by rw [f_ne, f_self hb]; cases nanB b <;> rfl
  generalize nanB b = n at *
  clear hb
  go_enter Try.func27, Try.ntmps27
  go_wp2
  go_ret
  exact ⟨rfl, rfl⟩
theorem isinf_down (b : Nat) (w : World) (hb : b < 18446744073709551616) :
    Calls Try.prog 28 #[.float .f64 b, .int .i64 (-1)] w fun e w' => e = .returned (.bool (downB b)) ∧ w = w' := by
  have n1 : ∀ w, (Op.unary .neg (.float .f64 b)).run Try.prog w = .ok (.float .f64 (flipS b)) w := fun w => by rw [← neg_flip hb]; rfl
  have o1 : (FloatKind.f64.format.order (flipS b) 9218868437227405311 == some Ordering.gt) = downB b := by
    rw [f_gt (flip_lt hb) (by decide), nan_flip, sr_flip hb, show nanB 9218868437227405311 = false by decide, show sr 9218868437227405311 = 9218868437227405311 by decide]
    unfold downB
    rw [Bool.not_false, Bool.and_true]
    congr 1
    congr 1
    apply propext
    omega
  generalize flipS b = c at *
  generalize downB b = n at *
  clear hb
  go_enter Try.func28, Try.ntmps28
  go_wp2
  go_ret
  exact ⟨rfl, rfl⟩
theorem isinf_up (b : Nat) (w : World) (hb : b < 18446744073709551616) :
    Calls Try.prog 28 #[.float .f64 b, .int .i64 1] w fun e w' => e = .returned (.bool (upB b)) ∧ w = w' := by
  have o1 : (FloatKind.f64.format.order b 9218868437227405311 == some Ordering.gt) = upB b := by
    rw [f_gt hb (by decide), show nanB 9218868437227405311 = false by decide, show sr 9218868437227405311 = 9218868437227405311 by decide]
    unfold upB
    rw [Bool.not_false, Bool.and_true]
  generalize upB b = n at *
  clear hb
  go_enter Try.func28, Try.ntmps28
  go_wp2
  go_ret
  exact ⟨rfl, rfl⟩

theorem class_any (b : Nat) (w : World) (hb : b < 18446744073709551616) :
    Calls Try.prog 15 #[.float .f64 b] w fun e w' => e = .returned (.int .i64 (classS b : Nat)) ∧ w = w' := by
  have hc := class_tests hb
  have k1 := Lib.hid (fun w => isnan_any b w hb)
  have k2 := Lib.hid (fun w => isinf_down b w hb)
  have k3 := Lib.hid (fun w => isinf_up b w hb)
  have o4 := f_lt hb (show 0 < 18446744073709551616 by decide)
  have o5 := f_gt hb (show 0 < 18446744073709551616 by decide)
  rw [show nanB 0 = false by decide, show sr 0 = 0 by decide] at o4 o5
  simp only [Bool.not_false, Bool.and_true] at o4 o5
  generalize downB b = d2 at *
  generalize upB b = d3 at *
  generalize (!nanB b && decide (sr b < 0)) = d4 at *
  generalize (!nanB b && decide (0 < sr b)) = d5 at *
  generalize nanB b = n at *
  generalize classS b = c at *
  clear hb
  cases n
  case true =>
    simp only [if_true] at hc
    subst hc
    go_enter Try.func15, Try.ntmps15
    go_wp2_with fail
    refine (k1.out _).mono ?_
    rintro e w' ⟨rfl, rfl⟩
    go_wp2
    go_ret
    exact ⟨rfl, rfl⟩
  cases d2
  case true =>
    simp only [if_true, if_false, Bool.false_eq_true] at hc
    subst hc
    go_enter Try.func15, Try.ntmps15
    go_wp2_with fail
    refine (k1.out _).mono ?_
    rintro e w' ⟨rfl, rfl⟩
    go_wp2_with fail
    refine (k2.out _).mono ?_
    rintro e w' ⟨rfl, rfl⟩
    go_wp2
    go_ret
    exact ⟨rfl, rfl⟩
  cases d3 <;> cases d4 <;> cases d5 <;> simp only [if_true, if_false, Bool.false_eq_true] at hc <;> subst hc
  all_goals
    go_enter Try.func15, Try.ntmps15
    go_wp2_with fail
    refine (k1.out _).mono ?_
    rintro e w' ⟨rfl, rfl⟩
    go_wp2_with fail
    refine (k2.out _).mono ?_
    rintro e w' ⟨rfl, rfl⟩
    go_wp2_with fail
    refine (k3.out _).mono ?_
    rintro e w' ⟨rfl, rfl⟩
    go_wp2
    go_ret
    exact ⟨rfl, rfl⟩

theorem sum_any (v : Value) (l : List Nat) (w : World) (h : RowOf f64V w v l) (hl : l.length ≤ 1000) (hw : Words l) :
    Calls Try.prog 24 #[v] w fun e w' => ∃ r, e = .returned (.float .f64 r) ∧ okF (sumO l) r ∧ Below w.heap.size w w' := by
  rcases h with ⟨rfl, a, cap, rfl⟩ | ⟨h0, b, off, cap, rfl, hcap, hb, hc⟩
  · go_enter Try.func24, Try.ntmps24
    go_wp2
    refine wp_loop_rounds 1 ?_
    rw [rounds_succ]
    go_wp2
    go_ret
    exact ⟨_, rfl, ⟨by decide, rfl⟩, Below.refl _ _⟩
  · go_enter Try.func24, Try.ntmps24
    go_wp2
    go_loopw [3, 8] (fun u i wr => ∃ k r : Nat, k ≤ l.length ∧ i = .int .i64 k ∧ u = .float .f64 r ∧ okF (sumO (l.take k)) r ∧ Below w.heap.size w wr) (fun _ i _ => l.length - (intOf i).toNat)
    case atStart => exact ⟨0, 0, Nat.zero_le _, rfl, rfl, ⟨by decide, rfl⟩, Below.refl _ _⟩
    case round =>
      obtain ⟨k, r, hk, rfl, rfl, hok, hbel⟩ := hrel
      by_cases hlt : k < l.length
      · have hcy : wr.cell? ⟨b, off + k, none⟩ = some (.float .f64 (l.getD k 0)) := (hbel.cell (p := ⟨b, off + k, none⟩) hb).trans (hc k hlt)
        have Htk := Lib.hid (sumO_snoc (l.take k) (l.getD k 0))
        rw [← take_next l k hlt] at Htk
        have hx := words_at hw k
        generalize l.getD k 0 = x at *
        obtain ⟨r2, w2, hr2, hw2, hok2⟩ := add_run 23 (sumO (l.take k)) r x hok hx wr
        rw [← Htk.out] at hok2
        have s1 : (k : Int) < (l.length : Int) := by omega
        clear hok hx
        have Hok := Lib.hid hok2
        have Hw2 := Lib.hid hw2
        clear hok2 hw2
        go_wp2
        go_roundw
        case rel =>
          refine ⟨k + 1, r2, by omega, by go_num, rfl, Hok.out, ?_⟩
          rcases Hw2.out with rfl | rfl
          · exact hbel
          · exact hbel.drew
        case measure => simp [intOf]; omega
      · obtain rfl : k = l.length := by omega
        have s1 : ¬ (l.length : Int) < (l.length : Int) := by omega
        rw [List.take_length] at hok
        go_wp2
        go_ret
        exact ⟨_, rfl, hok, hbel⟩
end Go.Proofs.Ytlabddbpjdndoaa

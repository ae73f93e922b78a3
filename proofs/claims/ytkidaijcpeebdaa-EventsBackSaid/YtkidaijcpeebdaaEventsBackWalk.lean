/- The walk of EventsBack. -/
import Derived.Test.YtkidaijcpeebdaaEventsTwo
import Derived.Test.YtkidaijcpeebdaaEventsBytes
namespace Go.Proofs.Ytkidaijcpeebdaa.EvBack
open Go.RowKit
set_option linter.unusedVariables false
attribute [local go_sem] run_store_float

theorem great_one (t d : ByteArray) (b : Nat) (s : ByteArray) (c : Nat) (w : World) (ht : t.size ≤ maxLen) (hd : d.size ≤ maxLen) (h : grt t d = true) :
    Calls Try.prog 6 #[.agg #[.string t, .string d, .int .u64 (b : Nat)], .string s, .int .u16 (c : Nat)] w fun e w' => e = .returned (.bool true) ∧ Below w.heap.size w w' := by
  have HG := fun W => great_any t d b W ht hd
  rw [h] at HG
  have HG1 := Lib.hid HG
  have hbw := (Below.refl w.heap.size w).alloc (Nat.le_refl _) (.cells #[.string t, .string d, .int .u64 (b : Nat)] 24)
  clear HG h ht hd
  go_enter Try.func6, Try.ntmps6
  go_wp2_with fail
  refine (HG1.out _).mono ?_
  rintro e w1 ⟨rfl, hb1⟩
  go_wp2_with fail
  refine (happened_true _).mono ?_
  rintro e w2 ⟨rfl, hb2⟩
  go_wp2
  go_ret
  exact ⟨rfl, bj hbw (bj hb1 hb2)⟩

theorem great_two (t d : ByteArray) (b : Nat) (s : ByteArray) (c : Nat) (w : World) (ht : t.size ≤ maxLen) (hd : d.size ≤ maxLen) (h : grt t d = false) (hs : s.size ≤ maxLen) (h5 : 500 < s.size) :
    Calls Try.prog 6 #[.agg #[.string t, .string d, .int .u64 (b : Nat)], .string s, .int .u16 (c : Nat)] w fun e w' => e = .returned (.bool true) ∧ Below w.heap.size w w' := by
  have HG := fun W => great_any t d b W ht hd
  rw [h] at HG
  have HG1 := Lib.hid HG
  have hbw := (Below.refl w.heap.size w).alloc (Nat.le_refl _) (.cells #[.string t, .string d, .int .u64 (b : Nat)] 24)
  unfold maxLen at hs
  clear HG h ht hd
  go_enter Try.func6, Try.ntmps6
  go_wp2_with fail
  refine (HG1.out _).mono ?_
  rintro e w1 ⟨rfl, hb1⟩
  go_wp2_with fail
  refine (happened_true _).mono ?_
  rintro e w2 ⟨rfl, hb2⟩
  go_wp2
  go_ret
  exact ⟨rfl, bj hbw (bj hb1 hb2)⟩

set_option maxHeartbeats 1000000 in
theorem wrong (t d : ByteArray) (b : Nat) (s : ByteArray) (c : Nat) (w : World) (ht : t.size ≤ 1000) (hd : d.size ≤ 1000) (hs : s.size ≤ 500) (hk : ¬ chk t d = 0) :
    Calls Try.prog 6 #[.agg #[.string t, .string d, .int .u64 (b : Nat)], .string s, .int .u16 (c : Nat)] w fun e w' => e = .returned (.bool true) ∧ Below w.heap.size w w' := by
  have HG := fun W => great_any t d b W (by unfold maxLen; omega) (by unfold maxLen; omega)
  have g1 : grt t d = false := by simp [grt]; omega
  rw [g1] at HG
  have HG1 := Lib.hid HG
  have HE := Lib.hid fun W => event_any t d b W
  have HB := Lib.hid fun W => bytes_no t d b W (by unfold maxLen; omega) (by unfold maxLen; omega) hk
  have hbw := (Below.refl w.heap.size w).alloc (Nat.le_refl _) (.cells #[.string t, .string d, .int .u64 (b : Nat)] 24)
  have R1 := RawAt.new w t d b
  have hcc := chk_cases t d
  have HC := fun W => check_any t d b W (by unfold maxLen; omega) (by unfold maxLen; omega)
  rcases hcc with hc | hc | hc
  · exact absurd hc hk
  all_goals
    rw [hc] at HC
    have HC1 := Lib.hid HC
    clear HC HG g1 hc hk ht hd
    go_enter Try.func6, Try.ntmps6
    go_wp2_with fail
    refine (HG1.out _).mono ?_
    rintro e w1 ⟨rfl, hb1⟩
    have R2 := R1.below hb1
    have k0 := R2.c0
    have k1 := R2.c1
    have k2 := R2.c2
    go_wp2_with fail
    refine (HE.out _).mono ?_
    rintro e w2 ⟨rfl, hb2⟩
    have E1 := EvAt.new w2 t d b
    have hbw2 := bj hbw (bj hb1 hb2)
    have hbw3 := hbw2.alloc hbw2.size (.cells #[.string t, .string d, .float .f64 b] 28)
    clear R1 R2 k0 k1 k2 hbw hb1 hb2 hbw2
    go_wp2_with fail
    refine (HB.out _).mono ?_
    rintro e w3 ⟨rfl, hb3⟩
    have E2 := E1.below hb3
    have k0 := E2.c0
    have k1 := E2.c1
    have k2 := E2.c2
    go_wp2_with fail
    refine (HC1.out _).mono ?_
    rintro e w4 ⟨rfl, hb4⟩
    go_wp2_with fail
    refine (happened_true _).mono ?_
    rintro e w5 ⟨rfl, hb5⟩
    go_wp2
    go_ret
    exact ⟨rfl, bj hbw3 (bj hb3 (bj hb4 hb5))⟩

theorem same_self (t d : ByteArray) (b : Nat) (hb : b < 18446744073709551616) (w : World) :
    Calls Try.prog 16 #[.agg #[.string t, .string d, .float .f64 b], .agg #[.string t, .string d, .float .f64 b]] w fun e w' => e = .returned (.bool true) ∧ Below w.heap.size w w' := by
  have := same_any t d b t d b w hb hb
  rw [evEq_self] at this
  exact this

set_option maxHeartbeats 2000000 in
theorem right (t d : ByteArray) (b : Nat) (s : ByteArray) (c : Nat) (w : World) (hb : b < 18446744073709551616) (hs : s.size ≤ 500) (hc : c ≤ 65535) (hk : chk t d = 0) :
    Calls Try.prog 6 #[.agg #[.string t, .string d, .int .u64 (b : Nat)], .string s, .int .u16 (c : Nat)] w fun e w' => e = .returned (.bool true) ∧ Below w.heap.size w w' := by
  have hz := chk_zero.1 hk
  have HG := fun W => great_any t d b W (by unfold maxLen; omega) (by unfold maxLen; omega)
  have g1 : grt t d = false := by simp [grt]; omega
  rw [g1] at HG
  have HG1 := Lib.hid HG
  have HE := Lib.hid fun W => event_any t d b W
  have HB := Lib.hid fun W => bytes_yes t d b W hb hk
  have HC := fun W => check_any t d b W (by unfold maxLen; omega) (by unfold maxLen; omega)
  rw [hk] at HC
  have HC1 := Lib.hid HC
  have HM := Lib.hid (same_self t d b hb)
  have hbw := (Below.refl w.heap.size w).alloc (Nat.le_refl _) (.cells #[.string t, .string d, .int .u64 (b : Nat)] 24)
  have R1 := RawAt.new w t d b
  obtain ⟨q1, q2, q3, q4, q5⟩ := er_back t d b s hk hb
  have hsz := evB_size t d b
  have hcut := er_cut t d b hk hb
  have HR := fun W => readev_any (evB t d b ++ s) W (by unfold maxLen; rw [ByteArray.size_append]; omega)
  rw [q1, q2, q3, q4, q5] at HR
  have HR1 := Lib.hid HR
  have hm : c % (evB t d b).size < (evB t d b).size := Nat.mod_lt _ (by omega)
  have hq := hcut _ hm
  obtain ⟨z1, z2, z3, z4⟩ := er_no hq
  have HN := fun W => readev_any ((evB t d b).extract 0 (c % (evB t d b).size)) W (by unfold maxLen; rw [ByteArray.size_extract]; omega)
  rw [hq, z1, z2, z3, z4] at HN
  have HN1 := Lib.hid HN
  have hadd : ∀ wx : World, (Op.stringOp .add (evB t d b) s).run Try.prog wx = .ok (.string (evB t d b ++ s)) wx := fun wx => run_string_add_sum (P := Try.prog) (w := wx) (evB t d b) s (by omega)
  have hp : (0 : Int) < ((evB t d b).size : Int) := by omega
  have hp0 : (((evB t d b).size : Int) == 0) = false := beq_eq_false_iff_ne.2 (by omega)
  have hl : (evB t d b).size ≤ 300 := by omega
  have es : (s.toList == s.toList) = true := by simp
  generalize evB t d b = B at *
  generalize hBs : B ++ s = BS at *
  clear hBs HR HN HC HG g1 hk q1 q2 q3 q4 q5 z1 z2 z3 z4 hq hcut hsz hz hb
  go_enter Try.func6, Try.ntmps6
  go_wp2_with fail
  refine (HG1.out _).mono ?_
  rintro e w1 ⟨rfl, hb1⟩
  have R2 := R1.below hb1
  have k0 := R2.c0
  have k1 := R2.c1
  have k2 := R2.c2
  go_wp2_with fail
  refine (HE.out _).mono ?_
  rintro e w2 ⟨rfl, hb2⟩
  have E1 := EvAt.new w2 t d b
  have hbw2 := bj hbw (bj hb1 hb2)
  have hbw3 := hbw2.alloc hbw2.size (.cells #[.string t, .string d, .float .f64 b] 28)
  clear R1 R2 k0 k1 k2 hbw hb1 hb2 hbw2
  go_wp2_with fail
  refine (HB.out _).mono ?_
  rintro e w3 ⟨rfl, hb3⟩
  have E2 := E1.below hb3
  have k0 := E2.c0
  have k1 := E2.c1
  have k2 := E2.c2
  go_wp2_with fail
  refine (HC1.out _).mono ?_
  rintro e w4 ⟨rfl, hb4⟩
  have E3 := E2.below hb4
  clear k0 k1 k2 E1 E2
  go_wp2_with fail
  refine (HR1.out _).mono ?_
  rintro e w5 ⟨rfl, hb5⟩
  have E4 := (E3.below hb5).alloc (.cells #[.string t, .string d, .float .f64 b] 28)
  have F4 := EvAt.new w5 t d b
  have hbw5 := bj hbw3 (bj hb3 (bj hb4 hb5))
  have hbw6 := hbw5.alloc hbw5.size (.cells #[.string t, .string d, .float .f64 b] 28)
  clear E3 hbw3 hb3 hb4 hb5 hbw5
  go_wp2_with fail
  refine (HN1.out _).mono ?_
  rintro e w6 ⟨rfl, hb6⟩
  have E5 := (E4.below hb6).alloc (.cells #[.string ByteArray.empty, .string ByteArray.empty, .float .f64 0] 28)
  have F5 := (F4.below hb6).alloc (.cells #[.string ByteArray.empty, .string ByteArray.empty, .float .f64 0] 28)
  have G5 := EvAt.new w6 ByteArray.empty ByteArray.empty 0
  have hbw7 := bj hbw6 hb6
  have hbw8 := hbw7.alloc hbw7.size (.cells #[.string ByteArray.empty, .string ByteArray.empty, .float .f64 0] 28)
  have k0 := (E4.below hb6).c0
  have k1 := (E4.below hb6).c1
  have k2 := (E4.below hb6).c2
  have j0 := (F4.below hb6).c0
  have j1 := (F4.below hb6).c1
  have j2 := (F4.below hb6).c2
  have lk := (E4.below hb6).lt
  have lj := (F4.below hb6).lt
  clear E4 F4 hbw6 hb6 hbw7
  go_wp2_with fail
  refine (HM.out _).mono ?_
  rintro e w7 ⟨rfl, hb7⟩
  have G6 := G5.below hb7
  have m0 := G6.c0
  have m1 := G6.c1
  have m2 := G6.c2
  clear E5 F5 G5 k0 k1 k2 j0 j1 j2
  go_wp2_with fail
  refine (same_self ByteArray.empty ByteArray.empty 0 (by omega) _).mono ?_
  rintro e w8 ⟨rfl, hb8⟩
  go_wp2_with fail
  refine (happened_true _).mono ?_
  rintro e w9 ⟨rfl, hb9⟩
  go_wp2
  go_ret
  exact ⟨rfl, bj hbw8 (bj hb7 (bj hb8 hb9))⟩

theorem walk (W : World) (x : RawS) (s : ByteArray) (c : Int) (wx : RawOk x) (ws : s.size ≤ maxLen) (wc : (Lit.int .u16 c).wf = true) :
    Calls Try.prog 6 #[rawB x, .string s, .int .u16 c] W fun e w' => e = .returned (.bool true) ∧ Below W.heap.size W w' := by
  obtain ⟨n, rfl, hn⟩ := u16_nat wc
  obtain ⟨t, d, b⟩ := x
  have ⟨ht, hd, hb⟩ := wx
  cases h : grt t d with
  | true => exact great_one t d b s n W ht hd h
  | false =>
    by_cases h5 : 500 < s.size
    · exact great_two t d b s n W ht hd h ws h5
    · by_cases hk : chk t d = 0
      · exact right t d b s n W hb (by omega) (by omega) hk
      · exact wrong t d b s n W (grt_no h).1 (grt_no h).2 (by omega) hk
end Go.Proofs.Ytkidaijcpeebdaa.EvBack

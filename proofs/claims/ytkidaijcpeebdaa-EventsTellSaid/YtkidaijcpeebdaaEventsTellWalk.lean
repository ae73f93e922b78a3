/- The walk of EventsTell. -/
import Derived.Test.YtkidaijcpeebdaaEventsTwo
import Derived.Test.YtkidaijcpeebdaaEventsOneRef
namespace Go.Proofs.Ytkidaijcpeebdaa.EvTell
open Go.RowKit
set_option linter.unusedVariables false
attribute [local go_sem] run_store_float

theorem bytes_any (t d : ByteArray) (b : Nat) (w : World) (ht : t.size ≤ maxLen) (hd : d.size ≤ maxLen) (hb : b < 18446744073709551616) :
    Calls Try.prog 14 #[.agg #[.string t, .string d, .float .f64 b]] w fun e w' => e = .returned (.string (evS t d b)) ∧ Below w.heap.size w w' := by
  unfold evS
  by_cases h : chk t d = 0
  · rw [if_pos h]; exact bytes_yes t d b w hb h
  · rw [if_neg h]; exact bytes_no t d b w ht hd h
theorem bytes_ref (t d : ByteArray) (b : Nat) (w : World) (ht : t.size ≤ maxLen) (hd : d.size ≤ maxLen) (hb : b < 18446744073709551616) :
    Calls Try.prog 15 #[.agg #[.string t, .string d, .float .f64 b]] w fun e w' => e = .returned (.string (evS t d b)) ∧ Below w.heap.size w w' := by
  unfold evS
  by_cases h : chk t d = 0
  · rw [if_pos h]; exact bytesr_yes t d b w hb h
  · rw [if_neg h]; exact bytesr_no t d b w ht hd h

set_option maxHeartbeats 4000000 in
set_option maxRecDepth 100000 in
theorem small (t d : ByteArray) (b : Nat) (t' d' : ByteArray) (b' : Nat) (w : World) (ht : t.size ≤ 1000) (hd : d.size ≤ 1000) (hb : b < 18446744073709551616) (ht' : t'.size ≤ 1000) (hd' : d'.size ≤ 1000) (hb' : b' < 18446744073709551616) :
    Calls Try.prog 3 #[.agg #[.string t, .string d, .int .u64 (b : Nat)], .agg #[.string t', .string d', .int .u64 (b' : Nat)]] w fun e w' => e = .returned (.bool true) ∧ Below w.heap.size w w' := by
  have HG1 := Lib.hid fun W => great_any t d b W (by unfold maxLen; omega) (by unfold maxLen; omega)
  have HG2 := Lib.hid fun W => great_any t' d' b' W (by unfold maxLen; omega) (by unfold maxLen; omega)
  have g1 : grt t d = false := by simp [grt]; omega
  have g2 : grt t' d' = false := by simp [grt]; omega
  rw [g1] at HG1
  rw [g2] at HG2
  clear g1 g2
  have R1 := ((RawAt.new w t d b).alloc (.cells #[.string t', .string d', .int .u64 (b' : Nat)] 24))
  have R2 := RawAt.new (w.alloc (.cells #[.string t, .string d, .int .u64 (b : Nat)] 24)) t' d' b'
  have hbw := ((Below.refl w.heap.size w).alloc (Nat.le_refl _) (.cells #[.string t, .string d, .int .u64 (b : Nat)] 24)).alloc (by simp) (.cells #[.string t', .string d', .int .u64 (b' : Nat)] 24)
  rw [World.size_alloc] at R2
  go_enter Try.func3, Try.ntmps3
  go_wp2_with fail
  refine (HG1.out _).mono ?_
  rintro e w1 ⟨rfl, hb1⟩
  have R11 := R1.below hb1
  have R21 := R2.below hb1
  have k0 := R11.c0
  have k1 := R11.c1
  have k2 := R11.c2
  have j0 := R21.c0
  have j1 := R21.c1
  have j2 := R21.c2
  have hbw1 := bj hbw hb1
  clear R1 R2
  go_wp2_with fail
  refine (HG2.out _).mono ?_
  rintro e w2 ⟨rfl, hb2⟩
  have R12 := R11.below hb2
  have R22 := R21.below hb2
  have hbw2 := bj hbw1 hb2
  clear R11 R21 k0 k1 k2 j0 j1 j2 hb1 hb2 hbw hbw1 HG1 HG2
  go_upto_region 3 with fail
  go_cut [5, 6] (fun u v wx => ∃ g5 g6 : Nat, u = .pointer (some ⟨g5, 0, none⟩) ∧ v = .pointer (some ⟨g6, 0, none⟩) ∧ EvC wx g5 t d b ∧ EvC wx g6 t' d' b' ∧ Below w.heap.size w wx)
  case first =>
    clear hb hb' ht hd ht' hd'
    have k0 := R12.c0
    have k1 := R12.c1
    have k2 := R12.c2
    have j0 := R22.c0
    have j1 := R22.c1
    have j2 := R22.c2
    have l1 := R12.lt
    have l2 := R22.lt
    clear R12 R22
    have HS : Hid (∀ W, Below w2.heap.size w2 W → Below w2.heap.size w2 W ∧ W.cell? ⟨w.heap.size, 0, none⟩ = some (.string t) ∧ W.cell? ⟨w.heap.size, 1, none⟩ = some (.string d) ∧ W.cell? ⟨w.heap.size, 2, none⟩ = some (.int .u64 (b : Nat)) ∧
        W.cell? ⟨w.heap.size + 1, 0, none⟩ = some (.string t') ∧ W.cell? ⟨w.heap.size + 1, 1, none⟩ = some (.string d') ∧ W.cell? ⟨w.heap.size + 1, 2, none⟩ = some (.int .u64 (b' : Nat))) :=
      Lib.hid fun W hW => ⟨hW, keep_cell hW l1 k0, keep_cell hW l1 k1, keep_cell hW l1 k2, keep_cell hW l2 j0, keep_cell hW l2 j1, keep_cell hW l2 j2⟩
    have H1 := Lib.hid fun W => event_any t d b W
    have H2 := Lib.hid fun W => event_any t' d' b' W
    go_region_held3 (fun W => Below w2.heap.size w2 W ∧ W.cell? ⟨w.heap.size, 0, none⟩ = some (.string t) ∧ W.cell? ⟨w.heap.size, 1, none⟩ = some (.string d) ∧ W.cell? ⟨w.heap.size, 2, none⟩ = some (.int .u64 (b : Nat)) ∧
        W.cell? ⟨w.heap.size + 1, 0, none⟩ = some (.string t') ∧ W.cell? ⟨w.heap.size + 1, 1, none⟩ = some (.string d') ∧ W.cell? ⟨w.heap.size + 1, 2, none⟩ = some (.int .u64 (b' : Nat)))
      (first | (with_reducible assumption) | ((with_reducible refine HS.out _ ?_); (repeat' (first | (with_reducible assumption) | (with_reducible exact Below.refl _ _) | (with_reducible refine own_alloc ?_) | (with_reducible refine own_set ?_ ?_) | (with_reducible refine Below.drew ?_) | omega)); done) | fail)
      (first
      | (go_at_call 11; ((with_reducible refine (H1.out _).mono ?_); rintro e w3 ⟨rfl, hb3⟩; have hz3 := hb3.size; (with_reducible (try (have A1 := (Blk3.new _ _ _ _ _).drew.below hb3; (try simp only [World.size_alloc] at A1); (try simp only [World.size_drew] at A1); obtain ⟨A1c0, A1c1, A1c2, A1f0, A1f1, A1f2, A1lt⟩ := A1.facts)); (try (have A2 := ((Blk3.new _ _ _ _ _).alloc _).drew.below hb3; (try simp only [World.size_alloc] at A2); (try simp only [World.size_drew] at A2); obtain ⟨A2c0, A2c1, A2c2, A2f0, A2f1, A2f2, A2lt⟩ := A2.facts))); have hB3 := hold_call (W0 := w2) hb3 (by with_reducible assumption); have hy3 := hB3.size))
      | (go_at_call 11; ((with_reducible refine (H2.out _).mono ?_); rintro e w4 ⟨rfl, hb4⟩; have hz4 := hb4.size; (with_reducible (try (have A3 := A1.below hb4; (try simp only [World.size_alloc] at A3); (try simp only [World.size_drew] at A3); obtain ⟨A3c0, A3c1, A3c2, A3f0, A3f1, A3f2, A3lt⟩ := A3.facts)); (try (have A4 := A2.below hb4; (try simp only [World.size_alloc] at A4); (try simp only [World.size_drew] at A4); obtain ⟨A4c0, A4c1, A4c2, A4f0, A4f1, A4f2, A4lt⟩ := A4.facts)); (try (have A5 := (A1.alloc _).below hb4; (try simp only [World.size_alloc] at A5); (try simp only [World.size_drew] at A5); obtain ⟨A5c0, A5c1, A5c2, A5f0, A5f1, A5f2, A5lt⟩ := A5.facts)); (try (have A6 := (Blk3.new _ _ _ _ _).below hb4; (try simp only [World.size_alloc] at A6); (try simp only [World.size_drew] at A6); obtain ⟨A6c0, A6c1, A6c2, A6f0, A6f1, A6f2, A6lt⟩ := A6.facts)); (try (have A7 := ((Blk3.new _ _ _ _ _).alloc _).below hb4; (try simp only [World.size_alloc] at A7); (try simp only [World.size_drew] at A7); obtain ⟨A7c0, A7c1, A7c2, A7f0, A7f1, A7f2, A7lt⟩ := A7.facts))); have hB4 := hold_call (W0 := w2) hb4 (by with_reducible assumption); have hy4 := hB4.size))
      | fail)
    all_goals
      go_step
      go_step
      go_meet
      refine ⟨_, _, rfl, rfl, ?_, ?_, held_on hbw2 (by with_reducible assumption)⟩
      all_goals
        unfold EvC
        refine ⟨?_, ?_, ?_, ?_⟩
        · go_simp
        · go_simp
        · go_simp
        · first | (simp; done) | (simp; omega) | omega
  case rest =>
    obtain ⟨g5, g6, rfl, rfl, ⟨k0, k1, k2, l5⟩, ⟨j0, j1, j2, l6⟩, hbc⟩ := hcut
    clear R12 R22 hbw2
    have HS : Hid (∀ W, Below wc.heap.size wc W → Below wc.heap.size wc W ∧ W.cell? ⟨g5, 0, none⟩ = some (.string t) ∧ W.cell? ⟨g5, 1, none⟩ = some (.string d) ∧ W.cell? ⟨g5, 2, none⟩ = some (.float .f64 b) ∧ W.cell? ⟨g6, 0, none⟩ = some (.string t') ∧ W.cell? ⟨g6, 1, none⟩ = some (.string d') ∧ W.cell? ⟨g6, 2, none⟩ = some (.float .f64 b')) := Lib.hid fun W hW => ⟨hW, keep_cell hW l5 k0, keep_cell hW l5 k1, keep_cell hW l5 k2, keep_cell hW l6 j0, keep_cell hW l6 j1, keep_cell hW l6 j2⟩
    have HC := Lib.hid fun W (h : Below wc.heap.size wc W ∧ W.cell? ⟨g5, 0, none⟩ = some (.string t) ∧ W.cell? ⟨g5, 1, none⟩ = some (.string d) ∧ W.cell? ⟨g5, 2, none⟩ = some (.float .f64 b) ∧ W.cell? ⟨g6, 0, none⟩ = some (.string t') ∧ W.cell? ⟨g6, 1, none⟩ = some (.string d') ∧ W.cell? ⟨g6, 2, none⟩ = some (.float .f64 b')) => (check_any t d b W (by unfold maxLen; omega) (by unfold maxLen; omega)).mono fun e w' ⟨he, hb⟩ => (⟨he, bj h.1 hb⟩ : _ ∧ Below wc.heap.size wc w')
    have HCR := Lib.hid fun W (h : Below wc.heap.size wc W ∧ W.cell? ⟨g5, 0, none⟩ = some (.string t) ∧ W.cell? ⟨g5, 1, none⟩ = some (.string d) ∧ W.cell? ⟨g5, 2, none⟩ = some (.float .f64 b) ∧ W.cell? ⟨g6, 0, none⟩ = some (.string t') ∧ W.cell? ⟨g6, 1, none⟩ = some (.string d') ∧ W.cell? ⟨g6, 2, none⟩ = some (.float .f64 b')) => (check_ref t d b W (by unfold maxLen; omega) (by unfold maxLen; omega)).mono fun e w' ⟨he, hb⟩ => (⟨he, bj h.1 hb⟩ : _ ∧ Below wc.heap.size wc w')
    have HB := Lib.hid fun W (h : Below wc.heap.size wc W ∧ W.cell? ⟨g5, 0, none⟩ = some (.string t) ∧ W.cell? ⟨g5, 1, none⟩ = some (.string d) ∧ W.cell? ⟨g5, 2, none⟩ = some (.float .f64 b) ∧ W.cell? ⟨g6, 0, none⟩ = some (.string t') ∧ W.cell? ⟨g6, 1, none⟩ = some (.string d') ∧ W.cell? ⟨g6, 2, none⟩ = some (.float .f64 b')) => (bytes_any t d b W (by unfold maxLen; omega) (by unfold maxLen; omega) hb).mono fun e w' ⟨he, hb⟩ => (⟨he, bj h.1 hb⟩ : _ ∧ Below wc.heap.size wc w')
    have HBR := Lib.hid fun W (h : Below wc.heap.size wc W ∧ W.cell? ⟨g5, 0, none⟩ = some (.string t) ∧ W.cell? ⟨g5, 1, none⟩ = some (.string d) ∧ W.cell? ⟨g5, 2, none⟩ = some (.float .f64 b) ∧ W.cell? ⟨g6, 0, none⟩ = some (.string t') ∧ W.cell? ⟨g6, 1, none⟩ = some (.string d') ∧ W.cell? ⟨g6, 2, none⟩ = some (.float .f64 b')) => (bytes_ref t d b W (by unfold maxLen; omega) (by unfold maxLen; omega) hb).mono fun e w' ⟨he, hb⟩ => (⟨he, bj h.1 hb⟩ : _ ∧ Below wc.heap.size wc w')
    have HM := Lib.hid fun W (h : Below wc.heap.size wc W ∧ W.cell? ⟨g5, 0, none⟩ = some (.string t) ∧ W.cell? ⟨g5, 1, none⟩ = some (.string d) ∧ W.cell? ⟨g5, 2, none⟩ = some (.float .f64 b) ∧ W.cell? ⟨g6, 0, none⟩ = some (.string t') ∧ W.cell? ⟨g6, 1, none⟩ = some (.string d') ∧ W.cell? ⟨g6, 2, none⟩ = some (.float .f64 b')) => (same_any t d b t' d' b' W hb hb').mono fun e w' ⟨he, hb⟩ => (⟨he, bj h.1 hb⟩ : _ ∧ Below wc.heap.size wc w')
    have HMR := Lib.hid fun W (h : Below wc.heap.size wc W ∧ W.cell? ⟨g5, 0, none⟩ = some (.string t) ∧ W.cell? ⟨g5, 1, none⟩ = some (.string d) ∧ W.cell? ⟨g5, 2, none⟩ = some (.float .f64 b) ∧ W.cell? ⟨g6, 0, none⟩ = some (.string t') ∧ W.cell? ⟨g6, 1, none⟩ = some (.string d') ∧ W.cell? ⟨g6, 2, none⟩ = some (.float .f64 b')) => (same_ref t d b t' d' b' W hb hb').mono fun e w' ⟨he, hb⟩ => (⟨he, bj h.1 hb⟩ : _ ∧ Below wc.heap.size wc w')
    have hms := fun W => same_any t d b t d b W hb hb
    rw [evEq_self] at hms
    have HMS := Lib.hid fun W (h : Below wc.heap.size wc W ∧ W.cell? ⟨g5, 0, none⟩ = some (.string t) ∧ W.cell? ⟨g5, 1, none⟩ = some (.string d) ∧ W.cell? ⟨g5, 2, none⟩ = some (.float .f64 b) ∧ W.cell? ⟨g6, 0, none⟩ = some (.string t') ∧ W.cell? ⟨g6, 1, none⟩ = some (.string d') ∧ W.cell? ⟨g6, 2, none⟩ = some (.float .f64 b')) => (hms W).mono fun e w' ⟨he, hb⟩ => (⟨he, bj h.1 hb⟩ : _ ∧ Below wc.heap.size wc w')
    clear hms
    have HH := Lib.hid fun W (h : Below wc.heap.size wc W ∧ W.cell? ⟨g5, 0, none⟩ = some (.string t) ∧ W.cell? ⟨g5, 1, none⟩ = some (.string d) ∧ W.cell? ⟨g5, 2, none⟩ = some (.float .f64 b) ∧ W.cell? ⟨g6, 0, none⟩ = some (.string t') ∧ W.cell? ⟨g6, 1, none⟩ = some (.string d') ∧ W.cell? ⟨g6, 2, none⟩ = some (.float .f64 b')) => (happened_true W).mono fun e w' ⟨he, hb⟩ => (⟨he, bj h.1 hb⟩ : _ ∧ Below wc.heap.size wc w')
    have e1 : ((evS t d b).toList == (evS t d b).toList) = true := by simp
    have e2 : (chk t d == chk t d) = true := by simp
    have e3 : (evEq t d b t' d' b' == evEq t d b t' d' b') = true := by simp
    generalize evS t d b = B at *
    generalize chk t d = k at *
    generalize evEq t d b t' d' b' = q at *
    clear hb hb' ht hd ht' hd'
    go_wp2_with fail
    go_region_held3 (fun W => Below wc.heap.size wc W ∧ W.cell? ⟨g5, 0, none⟩ = some (.string t) ∧ W.cell? ⟨g5, 1, none⟩ = some (.string d) ∧ W.cell? ⟨g5, 2, none⟩ = some (.float .f64 b) ∧ W.cell? ⟨g6, 0, none⟩ = some (.string t') ∧ W.cell? ⟨g6, 1, none⟩ = some (.string d') ∧ W.cell? ⟨g6, 2, none⟩ = some (.float .f64 b'))
      (first | (with_reducible assumption) | ((with_reducible refine HS.out _ ?_); (first | (with_reducible assumption) | (with_reducible exact Below.refl _ _) | (with_reducible exact (Below.refl _ _).drew)); done) | fail)
      (first
      | (go_at_call 12; ((with_reducible refine (HC.out _ (by with_reducible assumption)).mono ?_); rintro e w' ⟨rfl, hb⟩))
      | (go_at_call 13; ((with_reducible refine (HCR.out _ (by with_reducible assumption)).mono ?_); rintro e w' ⟨rfl, hb⟩))
      | (go_at_call 14; ((with_reducible refine (HB.out _ (by with_reducible assumption)).mono ?_); rintro e w' ⟨rfl, hb⟩))
      | (go_at_call 15; ((with_reducible refine (HBR.out _ (by with_reducible assumption)).mono ?_); rintro e w' ⟨rfl, hb⟩))
      | (go_at_call 16; ((with_reducible refine (HM.out _ (by with_reducible assumption)).mono ?_); rintro e w' ⟨rfl, hb⟩))
      | (go_at_call 16; ((with_reducible refine (HMS.out _ (by with_reducible assumption)).mono ?_); rintro e w' ⟨rfl, hb⟩))
      | (go_at_call 17; ((with_reducible refine (HMR.out _ (by with_reducible assumption)).mono ?_); rintro e w' ⟨rfl, hb⟩))
      | (go_at_call 10; ((with_reducible refine (HH.out _ (by with_reducible assumption)).mono ?_); rintro e w' ⟨rfl, hb⟩))
      | fail)
    all_goals
      go_wp2
      go_ret
      exact ⟨rfl, held_on hbc (by with_reducible assumption)⟩

theorem great_one (t d : ByteArray) (b : Nat) (v : RawS) (w : World) (ht : t.size ≤ maxLen) (hd : d.size ≤ maxLen) (h : grt t d = true) :
    Calls Try.prog 3 #[.agg #[.string t, .string d, .int .u64 (b : Nat)], rawB v] w fun e w' => e = .returned (.bool true) ∧ Below w.heap.size w w' := by
  have HG := fun W => great_any t d b W ht hd
  rw [h] at HG
  have HG1 := Lib.hid HG
  obtain ⟨t', d', b'⟩ := v
  unfold rawB
  have hbw := ((Below.refl w.heap.size w).alloc (Nat.le_refl _) (.cells #[.string t, .string d, .int .u64 (b : Nat)] 24)).alloc (by simp) (.cells #[.string t', .string d', .int .u64 (b' : Nat)] 24)
  clear HG h ht hd
  go_enter Try.func3, Try.ntmps3
  go_wp2_with fail
  refine (HG1.out _).mono ?_
  rintro e w1 ⟨rfl, hb1⟩
  go_wp2_with fail
  refine (happened_true _).mono ?_
  rintro e w2 ⟨rfl, hb2⟩
  go_wp2
  go_ret
  exact ⟨rfl, bj hbw (bj hb1 hb2)⟩

theorem great_two (t d : ByteArray) (b : Nat) (t' d' : ByteArray) (b' : Nat) (w : World) (ht : t.size ≤ maxLen) (hd : d.size ≤ maxLen) (ht' : t'.size ≤ maxLen) (hd' : d'.size ≤ maxLen) (h : grt t d = false) (h' : grt t' d' = true) :
    Calls Try.prog 3 #[.agg #[.string t, .string d, .int .u64 (b : Nat)], .agg #[.string t', .string d', .int .u64 (b' : Nat)]] w fun e w' => e = .returned (.bool true) ∧ Below w.heap.size w w' := by
  have HG := fun W => great_any t d b W ht hd
  have HK := fun W => great_any t' d' b' W ht' hd'
  rw [h] at HG
  rw [h'] at HK
  have HG1 := Lib.hid HG
  have HG2 := Lib.hid HK
  have R2 := RawAt.new (w.alloc (.cells #[.string t, .string d, .int .u64 (b : Nat)] 24)) t' d' b'
  have hbw := ((Below.refl w.heap.size w).alloc (Nat.le_refl _) (.cells #[.string t, .string d, .int .u64 (b : Nat)] 24)).alloc (by simp) (.cells #[.string t', .string d', .int .u64 (b' : Nat)] 24)
  rw [World.size_alloc] at R2
  clear HG HK h h' ht hd ht' hd'
  go_enter Try.func3, Try.ntmps3
  go_wp2_with fail
  refine (HG1.out _).mono ?_
  rintro e w1 ⟨rfl, hb1⟩
  have R21 := R2.below hb1
  have j0 := R21.c0
  have j1 := R21.c1
  have j2 := R21.c2
  have hbw1 := bj hbw hb1
  go_wp2_with fail
  refine (HG2.out _).mono ?_
  rintro e w2 ⟨rfl, hb2⟩
  go_wp2_with fail
  refine (happened_true _).mono ?_
  rintro e w3 ⟨rfl, hb3⟩
  go_wp2
  go_ret
  exact ⟨rfl, bj hbw1 (bj hb2 hb3)⟩

theorem walk (W : World) (x y : RawS) (wx : RawOk x) (wy : RawOk y) : Calls Try.prog 3 #[rawB x, rawB y] W fun e w' => e = .returned (.bool true) ∧ Below W.heap.size W w' := by
  obtain ⟨t, d, b⟩ := x
  have ⟨ht, hd, hb⟩ := wx
  cases h : grt t d with
  | true => exact great_one t d b y W ht hd h
  | false =>
    obtain ⟨t', d', b'⟩ := y
    have ⟨ht', hd', hb'⟩ := wy
    cases h' : grt t' d' with
    | true => exact great_two t d b t' d' b' W ht hd ht' hd' h h'
    | false => exact small t d b t' d' b' W (grt_no h).1 (grt_no h).2 hb (grt_no h').1 (grt_no h').2 hb'
end Go.Proofs.Ytkidaijcpeebdaa.EvTell

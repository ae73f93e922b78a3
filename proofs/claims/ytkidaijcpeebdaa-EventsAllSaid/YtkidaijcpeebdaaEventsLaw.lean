/- The small functions of the statements of layer 7: Great, Event, nan; the chapter's examples. -/
import Derived.Test.YtkidaijcpeebdaaEventsReadOne
import Derived.Deep.RegionHeld3
namespace Go.Proofs.Ytkidaijcpeebdaa
open Go.RowKit
set_option linter.unusedVariables false
attribute [local go_sem] run_store_float

def grt (t d : ByteArray) : Bool := decide (1000 < t.size) || decide (1000 < d.size)
theorem grt_no {t d : ByteArray} (h : grt t d = false) : t.size ≤ 1000 ∧ d.size ≤ 1000 := by
  simp only [grt, Bool.or_eq_false_iff, decide_eq_false_iff_not] at h
  omega
theorem great_any (t d : ByteArray) (b : Nat) (w : World) (ht : t.size ≤ maxLen) (hd : d.size ≤ maxLen) :
    Calls Try.prog 9 #[.agg #[.string t, .string d, .int .u64 (b : Nat)]] w fun e w' => e = .returned (.bool (grt t d)) ∧ Below w.heap.size w w' := by
  unfold maxLen at ht hd
  unfold grt
  by_cases h1 : 1000 < t.size
  · rw [decide_eq_true h1]
    have q1 : decide ((1000 : Int) < (t.size : Int)) = true := decide_eq_true (by omega)
    go_enter Try.func9, Try.ntmps9
    go_wp2
    go_ret
    exact ⟨rfl, (Below.refl _ _).alloc (Nat.le_refl _) _⟩
  · rw [decide_eq_false h1]
    have q1 : decide ((1000 : Int) < (t.size : Int)) = false := decide_eq_false (by omega)
    by_cases h2 : 1000 < d.size
    · rw [decide_eq_true h2]
      have q2 : decide ((1000 : Int) < (d.size : Int)) = true := decide_eq_true (by omega)
      go_enter Try.func9, Try.ntmps9
      go_wp2
      go_ret
      exact ⟨rfl, (Below.refl _ _).alloc (Nat.le_refl _) _⟩
    · rw [decide_eq_false h2]
      have q2 : decide ((1000 : Int) < (d.size : Int)) = false := decide_eq_false (by omega)
      go_enter Try.func9, Try.ntmps9
      go_wp2
      go_ret
      exact ⟨rfl, (Below.refl _ _).alloc (Nat.le_refl _) _⟩

theorem event_any (t d : ByteArray) (b : Nat) (w : World) :
    Calls Try.prog 11 #[.agg #[.string t, .string d, .int .u64 (b : Nat)]] w fun e w' => e = .returned (.agg #[.string t, .string d, .float .f64 b]) ∧ Below w.heap.size w w' := by
  have hfb := fun w => frombits_run b w
  have hbw : Below w.heap.size w ((w.alloc (.cells #[.string t, .string d, .int .u64 (b : Nat)] 24)).alloc (.cells #[.string t, .string d, .float .f64 b] 28)) := ((Below.refl _ _).alloc (Nat.le_refl _) _).alloc (by simp) _
  go_enter Try.func11, Try.ntmps11
  go_wp2_with fail
  go_region
  all_goals
    go_wp2
    exact bodyPost_ret (v := .agg #[.string t, .string d, .float .f64 b]) (by simp [results, Try.results11, go_sem]) rfl ⟨rfl, hbw.drew⟩

theorem nan_any (w : World) : Calls Try.prog 24 #[] w fun e w' => e = .returned (.float .f64 9218868437227405317) ∧ w = w' := by
  have h1 : ∀ w, (callFunc 23 #[.int .u64 9218868437227405317]).run Try.prog w = .ok (.value (.float .f64 9218868437227405317)) w := fun w => frombits_run 9218868437227405317 w
  go_enter Try.func24, Try.ntmps24
  go_wp2
  go_ret
  exact ⟨rfl, rfl⟩

theorem make_long : ∃ Z : Array Value, (∀ w : World, (Instr.makeSlice 46 (.int .i64 201) (.int .i64 201)).run Try.prog w = .ok (.slice (some ⟨w.heap.size, 0, none⟩) 201 201) (w.alloc (.cells Z 5))) ∧
    ∀ w : World, (convert 46 9 (.slice (some ⟨w.heap.size, 0, none⟩) 201 201)).run Try.prog (w.alloc (.cells Z 5)) = .ok (.string (bs (List.replicate 201 0))) (w.alloc (.cells Z 5)) := by
  refine ⟨madeCells #[.int .u8 0] 201, run_make_row' (P := Try.prog) 46 5 (.int .u8 0) 1 Try.underlying46 (by kernel_rfl) rfl .i64 .i64 201 (by omega) (by omega), fun w => ?_⟩
  have hrow := World.rowIs_made w (.int .u8 0) 201 5
  have h := run_convert_bytes_back (P := Try.prog) (w.alloc (.cells (madeCells #[.int .u8 0] 201) 5)) 46 9 5 ⟨w.heap.size, 0, none⟩ 201 (List.replicate 201 0) Try.underlying46 Try.underlying5 Try.underlying9
    (fun j hj => by
      rw [List.length_replicate] at hj
      have e : (⟨w.heap.size, 0, none⟩ : Addr).add j = ⟨w.heap.size, j, none⟩ := by simp [Addr.add]; omega
      rw [List.getElem_replicate, e]
      exact hrow.cell hj)
  rw [List.length_replicate] at h
  exact h

theorem ex_check (t d : ByteArray) (k : Int) (ht : t.size ≤ 1000) (hd : d.size ≤ 1000) (h : chk t d = k) (b : Nat) (w : World) :
    Calls Try.prog 12 #[.agg #[.string t, .string d, .float .f64 b]] w fun e w' => e = .returned (.int .i64 k) ∧ Below w.heap.size w w' := h ▸ check_any t d b w (by unfold maxLen; omega) (by unfold maxLen; omega)
theorem ex_same (t d : ByteArray) (b b' : Nat) (q : Bool) (hb : b < 18446744073709551616) (hb' : b' < 18446744073709551616) (h : evEq t d b t d b' = q) (w : World) :
    Calls Try.prog 16 #[.agg #[.string t, .string d, .float .f64 b], .agg #[.string t, .string d, .float .f64 b']] w fun e w' => e = .returned (.bool q) ∧ Below w.heap.size w w' := h ▸ same_any t d b t d b' w hb hb'

set_option maxHeartbeats 1000000 in
set_option maxRecDepth 100000 in
theorem happened_true (w : World) : Calls Try.prog 10 #[] w fun e w' => e = .returned (.bool true) ∧ Below w.heap.size w w' := by
  obtain ⟨Z, hmk, hcv⟩ := make_long
  have hsz : (bs (List.replicate 201 0)).size = 201 := by rw [bs_size, List.length_replicate]
  have hex : ((bs (List.replicate 201 0)).extract 0 17).size = 17 := by rw [ByteArray.size_extract, hsz]; rfl
  have H1 := Lib.hid (ex_check ((bs (List.replicate 201 0)).extract 0 17) ByteArray.empty 3 (by omega) (by decide) (chk_long (by omega) (by omega)) 0)
  have H2 := Lib.hid (ex_check ⟨#[97]⟩ (bs (List.replicate 201 0)) 3 (by decide) (by omega) (chk_long (by decide) (by omega)) 0)
  have hb0 : Below w.heap.size w (w.alloc (.cells Z 5)) := (Below.refl _ _).alloc (Nat.le_refl _) _
  have hl : 17 ≤ (bs (List.replicate 201 0)).size := by omega
  have HB := Lib.hid (fun W => bytes_yes ⟨#[97]⟩ ⟨#[98, 99]⟩ 4607182418800017408 W (by omega) (chk_zero.2 (by decide)))
  rw [show evB ⟨#[97]⟩ ⟨#[98, 99]⟩ 4607182418800017408 = ⟨#[0, 1, 97, 0, 2, 98, 99, 63, 240, 0, 0, 0, 0, 0, 0]⟩ by kernel_rfl] at HB
  clear hex hsz
  generalize bs (List.replicate 201 0) = long at *
  have hfb : ∀ w, (callFunc 23 #[.int .u64 9223372036854775808]).run Try.prog w = .ok (.value (.float .f64 9223372036854775808)) w := fun w => frombits_run 9223372036854775808 w
  go_enter Try.func10, Try.ntmps10
  go_wp2_with fail
  refine (HB.out _).mono ?_
  rintro e w1 ⟨rfl, hb1⟩
  go_wp2_with fail
  refine (ex_check ByteArray.empty ByteArray.empty 2 (by decide) (by decide) (chk_arg (by decide)) 0 _).mono ?_
  rintro e w2 ⟨rfl, hb2⟩
  go_wp2_with fail
  refine (H1.out _).mono ?_
  rintro e w3 ⟨rfl, hb3⟩
  go_wp2_with fail
  refine (H2.out _).mono ?_
  rintro e w4 ⟨rfl, hb4⟩
  go_wp2_with fail
  refine (ex_same ⟨#[97]⟩ ByteArray.empty 0 9223372036854775808 false (by omega) (by omega) (by decide) _).mono ?_
  rintro e w5 ⟨rfl, hb5⟩
  go_wp2_with fail
  refine (nan_any _).mono ?_
  rintro e w6 ⟨rfl, rfl⟩
  go_wp2_with fail
  refine (nan_any _).mono ?_
  rintro e w7 ⟨rfl, rfl⟩
  go_wp2_with fail
  refine (ex_same ⟨#[97]⟩ ByteArray.empty 9218868437227405317 9218868437227405317 true (by omega) (by omega) (by decide) _).mono ?_
  rintro e w8 ⟨rfl, hb8⟩
  go_wp2
  go_ret
  exact ⟨rfl, bj hb0 (bj hb1 (bj hb2 (bj hb3 (bj hb4 (bj hb5 hb8)))))⟩
end Go.Proofs.Ytkidaijcpeebdaa

/- The walk of annalistlaw14.BloomsStep. -/
import Derived.Test.YtdgcagcgboinpaaBlEx
import Derived.Test.YtdgcagcgboinpaaBlRow
namespace Go.Proofs.Ytdgcagcgboinpaa.bloomsStepW
open Go.RowKit
set_option linter.unusedVariables false

theorem pow_le (e : Nat) (he : e ≤ 10) : 0 < 2 ^ e ∧ 2 ^ e ≤ 1024 := ⟨Nat.pow_pos (by decide), show 2 ^ e ≤ 2 ^ 10 from Nat.pow_le_pow_right (by decide) he⟩

set_option maxHeartbeats 1000000 in
theorem walk (a0 : Int) (a1 : Int) (w0 : (Lit.int .u64 a0).wf = true) (w1 : (Lit.int .u8 a1).wf = true) (w : World) :
    Calls Try.prog 7 #[.int .u64 a0, .int .u8 a1] w fun e w' => e = .returned (.bool true) ∧ Below w.heap.size w w' := by
  obtain ⟨x, rfl, hx⟩ := u64_nat w0
  obtain ⟨y, rfl, hy⟩ := u8_nat w1
  have he : y % 11 ≤ 10 := by omega
  obtain ⟨hm0, hm1⟩ := pow_le (y % 11) he
  have HI := Lib.hid fun (i j : Nat) (hi : i < 2 ^ (y % 11)) (hj : j < i) => prb_inj (h := x) (e := y % 11) (by omega) hi (by omega) hj
  have HR := prb_round (h := x) (e := y % 11) (by omega)
  have ep : wrap64 ((2 : Int) ^ (y % 11)) = ((2 ^ (y % 11) : Nat) : Int) := by
    have e2 : (2 : Int) ^ (y % 11) = ((2 ^ (y % 11) : Nat) : Int) := by rw [Int.natCast_pow]; rfl
    rw [e2]
    unfold wrap64
    omega
  obtain ⟨m, hm⟩ : ∃ m, 2 ^ (y % 11) = m := ⟨_, rfl⟩
  rw [hm] at hm0 hm1 ep HR
  simp only [hm] at HI
  clear hm
  have wm : (Lit.int .i64 (m : Nat)).wf = true := WalkArith.wf_i64 (by omega)
  have HP := Lib.hid fun (i : Nat) (w : World) (hi : i ≤ 1024) => probe_any x (i : Nat) (m : Nat) w hx (WalkArith.wf_i64 (by omega)) wm
  have hmk := run_make_row' (P := Try.prog) 36 4 (.bool false) 1 Try.underlying36 (by kernel_rfl) rfl .i64 .i64 m (by omega) (by omega)
  have hR0 := rowB_made w (.bool false) m 4
  obtain ⟨Z, hZ⟩ : ∃ Z, madeCells #[Value.bool false] m = Z := ⟨_, rfl⟩
  rw [hZ] at hmk hR0
  clear hZ
  go_enter Try.func7, Try.ntmps7
  go_wp2
  simp only [ep]
  clear ep
  go_loopw [7] (fun ii wr => ∃ k : Nat, k ≤ m ∧ ii = .int .i64 k ∧ RowB wr w.heap.size m (fun i => .bool (on (asksTo x (m : Nat) k) i)) ∧ Below w.heap.size w wr) (fun ii _ => m - (intOf ii).toNat)
  case atStart => exact ⟨0, Nat.zero_le _, rfl, hR0.congr fun i _ => by rw [asksTo_zero]; rfl, (Below.refl _ w).alloc (Nat.le_refl _) _⟩
  case round =>
    clear hR0 hmk
    obtain ⟨k, hk, rfl, hrow, hbel⟩ := hrel
    by_cases hlt : k < m
    · have s1 : (k : Int) < (m : Int) := by omega
      have HK := Lib.hid fun w => HP.out k w (by omega)
      have HA := Lib.hid (asksTo_succ x (m : Nat) k)
      have hq := prb_lt x (k : Nat) (show (1 : Int) ≤ (m : Nat) by omega)
      have hno : on (asksTo x (m : Nat) k) (prb x (k : Nat) (m : Nat)) = false := decide_eq_false fun h => by
        obtain ⟨j, hj, e⟩ := List.mem_map.1 h
        exact HI.out k j hlt (List.mem_range.1 hj) e.symm
      generalize prb x (k : Nat) (m : Nat) = q at *
      have hqm : q < m := by omega
      have s2 : (q : Int) < (m : Int) := by omega
      have c1 := hrow.cell hqm
      have f1 := hrow.frozen hqm
      rw [hno] at c1
      have HF := Lib.hid (And.intro (hrow.set q (.bool true)) hbel)
      clear hrow hbel hno
      go_wp2_with fail
      refine (HK.out _).mono ?_
      rintro e w' ⟨rfl, rfl⟩
      go_wp2
      go_roundw
      case rel =>
        obtain ⟨hs, hb⟩ := HF.out
        refine ⟨k + 1, hlt, by go_num, hs.congr fun i _ => ?_, hb.setCell (p := ⟨w.heap.size, q, none⟩) (Nat.le_refl _) _⟩
        rw [HA.out, on_append (asksTo x (m : Nat) k) [q], on_one]
        by_cases e : i = q
        · rw [if_pos e, decide_eq_true e, Bool.or_true]
        · rw [if_neg e, decide_eq_false e, Bool.or_false]
      case measure => simp [intOf]; omega
    · obtain rfl : k = m := by omega
      have s1 : ¬ (k : Int) < (k : Int) := by omega
      have H1 := Lib.hid fun w => HP.out k w (by omega)
      have H0 := Lib.hid fun w => HP.out 0 w (by omega)
      rw [HR] at H1
      generalize prb x ((0 : Nat) : Int) (k : Nat) = r at *
      have e0 : ((r : Int) == (r : Int)) = true := beq_self_eq_true _
      clear hrow
      go_wp2_with fail
      refine (H1.out _).mono ?_
      rintro e w' ⟨rfl, rfl⟩
      go_wp2_with fail
      refine (H0.out _).mono ?_
      rintro e w' ⟨rfl, rfl⟩
      go_wp2_with fail
      refine (bloomed_true _).mono ?_
      rintro e w2 ⟨rfl, b2⟩
      go_wp2
      go_ret
      exact ⟨rfl, bj hbel b2⟩
end Go.Proofs.Ytdgcagcgboinpaa.bloomsStepW

/- 'MidsMany': the walk. -/
import Derived.Test.YtipimfimibnjiaaMdEx
namespace Go.Proofs.Ytipimfimibnjiaa
open Go.RowKit Go.Shelf
set_option linter.unusedVariables false
attribute [local go_sem ↓] Go.wp_at_zero Go.wp_at_succ

namespace midsMany
theorem cnt_some (p d : Nat) (hd : p / 8 = d) : cntM (p + 1) = if p % 8 = 0 then d + 1 else d + 2 := by
  unfold cntM
  rw [if_neg (Nat.succ_ne_zero p), Nat.add_sub_cancel]
  split <;> omega
set_option maxHeartbeats 2000000 in
set_option maxRecDepth 100000 in
theorem walk_ (w : World) (n k : Nat) (hn : n < 65536) (hk : n % 300 = k) :
    Calls Try.prog 7 #[.int .u16 (n : Nat)] w (MidEnd w) := by
  have k1 : (n : Int).tmod 300 = (k : Int) := by rw [Int.tmod_eq_emod_of_nonneg (by omega)]; omega
  have k2 : (n : Int) % 300 = (k : Int) := by omega
  have hk3 : k < 300 := by omega
  have HROW := Lib.hid (row_run k w (by omega))
  unfold EntsOut at HROW
  rw [rowE_length] at HROW
  have HMI := Lib.hid fun W => middle_true W
  clear hk
  go_enter Try.func7, Try.ntmps7
  go_wp2_with fail
  refine HROW.out.mono ?_
  rintro e w1 ⟨A1, c1, rfl, hrow, hb1⟩
  have HM := Lib.hid (mmake_any _ _ w1 (EntRow.in_ hrow) (by rw [rowE_length]; omega))
  unfold MidsOut at HM
  rw [(mids_all (rowE k)).1, rowE_length] at HM
  clear hrow HROW
  go_wp2_with fail
  refine HM.out.mono ?_
  rintro e w2 ⟨A2, c2, rfl, -, hb2⟩
  have HB := Lib.hid (bj hb1 hb2)
  clear hb1 hb2 HM
  by_cases h0 : k = 0
  · subst h0
    have e0 : cntM 0 = 0 := rfl
    rw [e0]
    have t1 : (((0 : Nat) : Int) == 0) = true := rfl
    go_wp2_with fail
    refine (HMI.out w2).mono ?_
    rintro e w3 ⟨rfl, hb3⟩
    go_wp2
    go_ret
    exact ⟨rfl, bj HB.out hb3⟩
  · obtain ⟨p, hp⟩ : ∃ p, k = p + 1 := ⟨k - 1, by omega⟩
    obtain ⟨d, hd⟩ : ∃ d, p / 8 = d := ⟨_, rfl⟩
    have hc := cnt_some p d hd
    rw [← hp] at hc
    have q0 : (k : Int) - 1 = (p : Int) := by omega
    have q1 : (p : Int).tdiv 8 = (d : Int) := by rw [Int.tdiv_eq_ediv_of_nonneg (by omega)]; omega
    have q2 : (p : Int) / 8 = (d : Int) := by omega
    have q3 : (0 : Int) < (k : Int) := by omega
    have hd9 : d < 300 := by omega
    have hp9 : p < 300 := by omega
    by_cases h8 : p % 8 = 0
    · rw [if_pos h8] at hc
      rw [hc]
      have t1 : decide ((0 : Int) < (p : Int) % 8) = false := decide_eq_false (by omega)
      have t2 : ((((d + 1 : Nat) : Int)) == (d : Int) + 1) = true := beq_iff_eq.2 (by omega)
      have t3 : ¬ (0 : Int) < (p : Int) % 8 := by omega
      clear hp hc h0 h8 hd
      go_wp2_with fail
      refine (HMI.out w2).mono ?_
      rintro e w3 ⟨rfl, hb3⟩
      go_wp2
      go_ret
      exact ⟨rfl, bj HB.out hb3⟩
    · rw [if_neg h8] at hc
      rw [hc]
      have t1 : decide ((0 : Int) < (p : Int) % 8) = true := decide_eq_true (by omega)
      have t2 : ((((d + 2 : Nat) : Int)) == (d : Int) + 1 + 1) = true := beq_iff_eq.2 (by omega)
      have t3 : (0 : Int) < (p : Int) % 8 := by omega
      clear hp hc h0 h8 hd
      go_wp2_with fail
      refine (HMI.out w2).mono ?_
      rintro e w3 ⟨rfl, hb3⟩
      go_wp2
      go_ret
      exact ⟨rfl, bj HB.out hb3⟩
theorem walk (n : Int) (wn : (Lit.int .u16 n).wf = true) (w : World) :
    Calls Try.prog 7 #[.int .u16 n] w fun e w' => e = .returned (.bool true) ∧ Below w.heap.size w w' := by
  obtain ⟨N, rfl, hN⟩ := u16_nat wn
  exact walk_ w N (N % 300) hN rfl
end midsMany
end Go.Proofs.Ytipimfimibnjiaa

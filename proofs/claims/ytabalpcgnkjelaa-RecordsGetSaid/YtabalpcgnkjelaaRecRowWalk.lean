/- The walk of RecordsRow, over what the program's records answer. -/
import Derived.Test.YtabalpcgnkjelaaRecTornWalk
namespace Go.Proofs.Ytabalpcgnkjelaa
open Go.RowKit
set_option linter.unusedVariables false

theorem idx3_0 (x y z : Int) (w : World) : (Instr.index 33 (.agg #[.int .i64 x, .int .i64 y, .int .i64 z]) (.int .i64 0)).run Try.prog w = .ok (.int .i64 x) w := by
  first | rfl | (simp [Instr.index, run_underlying Try.underlying33, asIntOf, go_sem])
theorem idx3_1 (x y z : Int) (w : World) : (Instr.index 33 (.agg #[.int .i64 x, .int .i64 y, .int .i64 z]) (.int .i64 1)).run Try.prog w = .ok (.int .i64 y) w := by
  first | rfl | (simp [Instr.index, run_underlying Try.underlying33, asIntOf, go_sem])
theorem idx3_2 (x y z : Int) (w : World) : (Instr.index 33 (.agg #[.int .i64 x, .int .i64 y, .int .i64 z]) (.int .i64 2)).run Try.prog w = .ok (.int .i64 z) w := by
  first | rfl | (simp [Instr.index, run_underlying Try.underlying33, asIntOf, go_sem])

set_option maxHeartbeats 2000000 in
set_option maxRecDepth 100000 in
theorem row_walk (api : RecApi) (a : ByteArray) (v : Value) (l : List ByteArray) (c : Nat) (w : World) (ha : a.size ≤ maxLen) (hx : ∀ p ∈ l, p.size ≤ maxLen) (hv : StrsIn w v l) (hc16 : c < 65536) :
    Calls Try.prog 5 #[.string a, v, .int .u16 (c : Nat)] w fun e w' => e = .returned (.bool true) ∧ Below w.heap.size w w' := by
  have HR := Lib.hid (recorded_true api)
  have HROW := Lib.hid (row_any a v l w ha hx hv)
  obtain ⟨A, cp, rfl, hlm⟩ := hv.form
  clear hv hx ha hlm
  go_enter Try.func5, Try.ntmps5
  go_wp2_with fail
  refine HROW.out.mono ?_
  rintro e w1 ⟨⟨hno, rfl⟩ | ⟨hok, u, rfl, hu⟩, hb1⟩
  · go_wp2_with fail
    refine (HR.out _).mono ?_
    rintro e w2 ⟨rfl, hb2⟩
    go_wp2
    go_ret
    exact ⟨rfl, bj hb1 hb2⟩
  · have hrl := rowAt_length a l
    have hne : ¬ rowAt a l = [] := fun q => by rw [q] at hrl; simp at hrl
    rcases hu with ⟨q, _⟩ | ⟨b, off, cap, rfl, hcap, hmx, hb, hcell⟩
    · exact absurd q hne
    have h20 := hok.2.1
    have hsz := rowS_size a l hok.2.2
    have h300 := hok.1
    have d0 := hcell 0 _ (rowAt_at a l 0 (by omega))
    rw [Nat.add_zero, List.take_zero, show rowS a [] = a from rfl] at d0
    have hr2 := Nat.mod_lt c (show 0 < l.length + 1 by omega)
    obtain ⟨r, hr⟩ : ∃ r, c % (l.length + 1) = r := ⟨_, rfl⟩
    rw [hr] at hr2
    have d2 := hcell r _ (rowAt_at a l r (by omega))
    have hY : (rowS a (l.take r)).size ≤ 30000 := by
      have := rowS_size a (l.take r) (fun p hp => hok.2.2 p (List.mem_of_mem_take hp))
      rw [List.length_take] at this
      omega
    obtain ⟨Y, hYe⟩ : ∃ Y, (rowS a (l.take r)).size = Y := ⟨_, rfl⟩
    rw [hYe] at d2 hY
    rw [hrl] at hcap ⊢
    obtain ⟨S, hS⟩ : ∃ S, rowS a l = S := ⟨_, rfl⟩
    rw [hS] at hsz ⊢
    have hm1 := Nat.mod_lt c (show 0 < S.size + 2 by omega)
    obtain ⟨k, hk⟩ : ∃ k, c % (S.size + 2) = k := ⟨_, rfl⟩
    rw [hk] at hm1
    have HK := Lib.hid (show (c : Int) % ((S.size : Int) + 2) = (k : Int) by rw [← hk]; rfl)
    have x1 : Int.tmod (c : Int) (((l.length + 1 : Nat) : Int)) = (r : Int) := by rw [Int.tmod_eq_emod_of_nonneg (by omega), ← hr]; rfl
    have x2 : Int.tmod (c : Int) ((l.length : Int) + 1) = (r : Int) := by rw [Int.tmod_eq_emod_of_nonneg (by omega), ← hr]; rfl
    have x3 : (c : Int) % ((l.length : Int) + 1) = (r : Int) := by rw [← hr]; rfl
    have n1 : 0 ≤ (c : Int) % ((l.length : Int) + 1) := by omega
    have n2 : (c : Int) % ((l.length : Int) + 1) < (l.length : Int) + 1 := by omega
    have n3 : ((c : Int) % ((l.length : Int) + 1)).toNat = r := by omega
    have p0 : (0 : Int) < ((l.length + 1 : Nat) : Int) := by omega
    have p1 : 0 < l.length + 1 := by omega
    unfold maxLen at hmx
    clear hok hcell hS hr hne hrl hYe hk HROW
    go_wp2
    rw [HK.out]
    go_quiet (fail)
    have hb2 := below_drewN hb1 nq
    generalize w1.drewN nq = w2 at *
    have hm2 := Nat.mod_lt k (show 0 < S.size + 1 by omega)
    obtain ⟨k2, hk2⟩ : ∃ k2, k % (S.size + 1) = k2 := ⟨_, rfl⟩
    rw [hk2] at hm2
    have m0 : (k : Int) % ((S.size : Int) + 1) = (k2 : Int) := by rw [← hk2]; rfl
    have m1 : 0 ≤ (k : Int) % ((S.size : Int) + 1) := by omega
    have m2 : (k : Int) % ((S.size : Int) + 1) ≤ (S.size : Int) := by omega
    have m3 : ((k : Int) % ((S.size : Int) + 1)).toNat = k2 := by omega
    have HS1 := Lib.hid fun (x : Nat) (hx : x ≤ 100000) W => stand_true api S (x : Int) W (by omega) (WalkArith.wf_i64 (by omega))
    have HS2 := Lib.hid fun (x : Nat) (hx : x ≤ 100000) W => stand_true api (S.extract 0 k2) (x : Int) W (by rw [ByteArray.size_extract]; omega) (WalkArith.wf_i64 (by omega))
    have hka : k ≤ 100000 := by omega
    have j0 := fun w => idx3_0 (k : Int) (Y : Int) (a.size : Int) w
    have j1 := fun w => idx3_1 (k : Int) (Y : Int) (a.size : Int) w
    have j2 := fun w => idx3_2 (k : Int) (Y : Int) (a.size : Int) w
    clear x1 x2 x3 n1 n2 n3 HK hk2 d0 d2 hb1
    go_wp2
    go_loopw [42] (fun i wr => ∃ j : Nat, j ≤ 3 ∧ i = .int .i64 j ∧ Below w.heap.size w wr) (fun i _ => 3 - (intOf i).toNat)
    case atStart => exact ⟨0, by omega, rfl, hb2⟩
    case round =>
      clear hb2
      obtain ⟨j, hj, rfl, hbel⟩ := hrel
      by_cases hlt : j < 3
      · have hj3 : j = 0 ∨ j = 1 ∨ j = 2 := by omega
        rcases hj3 with rfl | rfl | rfl
        · go_wp2_with fail
          refine (HS1.out k hka _).mono ?_
          rintro e w3 ⟨rfl, hb3⟩
          go_wp2_with fail
          refine (HS2.out k hka _).mono ?_
          rintro e w4 ⟨rfl, hb4⟩
          have hbel2 := bj hbel (bj hb3 hb4)
          go_wp2
          go_roundw
          case rel => exact ⟨1, by omega, by first | rfl | go_num, hbel2⟩
          case measure => first | (simp [intOf]; done) | (simp [intOf]; omega)
        · go_wp2_with fail
          refine (HS1.out Y (by omega) _).mono ?_
          rintro e w3 ⟨rfl, hb3⟩
          go_wp2_with fail
          refine (HS2.out Y (by omega) _).mono ?_
          rintro e w4 ⟨rfl, hb4⟩
          have hbel2 := bj hbel (bj hb3 hb4)
          go_wp2
          go_roundw
          case rel => exact ⟨2, by omega, by first | rfl | go_num, hbel2⟩
          case measure => first | (simp [intOf]; done) | (simp [intOf]; omega)
        · go_wp2_with fail
          refine (HS1.out a.size (by omega) _).mono ?_
          rintro e w3 ⟨rfl, hb3⟩
          go_wp2_with fail
          refine (HS2.out a.size (by omega) _).mono ?_
          rintro e w4 ⟨rfl, hb4⟩
          have hbel2 := bj hbel (bj hb3 hb4)
          go_wp2
          go_roundw
          case rel => exact ⟨3, by omega, by first | rfl | go_num, hbel2⟩
          case measure => first | (simp [intOf]; done) | (simp [intOf]; omega)
      · obtain rfl : j = 3 := by omega
        go_wp2_with fail
        refine (HR.out _).mono ?_
        rintro e w3 ⟨rfl, hb3⟩
        have hfin := bj hbel hb3
        go_wp2
        go_ret
        exact ⟨rfl, hfin⟩
end Go.Proofs.Ytabalpcgnkjelaa

/- NamesTell, NamesParse and NamesOrder over what the program's names answer. -/
import Derived.Test.YtaphmmbngjblhaaNamed
namespace Go.Proofs.Ytaphmmbngjblhaa
open Go.RowKit
set_option linter.unusedVariables false

theorem ntell_walk (api : NamesApi) (n : Int) (s : ByteArray) (w : World) (wn : (Lit.int .i64 n).wf = true) (hs : s.size ≤ maxLen) :
    Calls Try.prog 3 #[.int .i64 n, .string s] w fun e w' => e = .returned (.bool true) ∧ Below w.heap.size w w' := by
  have hs0 := hs
  unfold maxLen at hs0
  by_cases h : 300 < s.size
  · have t1 : decide ((300 : Int) < (s.size : Int)) = true := decide_eq_true (by omega)
    go_enter Try.func3, Try.ntmps3
    go_wp2_with fail
    refine (named_true api _).mono ?_
    rintro e w1 ⟨rfl, hb1⟩
    go_wp2
    go_ret
    exact ⟨rfl, hb1⟩
  · have t1 : decide ((300 : Int) < (s.size : Int)) = false := decide_eq_false (by omega)
    have C1 := Lib.hid fun W => api.chunk n W wn
    have C2 := Lib.hid fun W => api.table n W wn
    have C3 := Lib.hid fun W => api.bloom n W wn
    have S1 := Lib.hid fun W => api.stream s W hs
    have S2 := Lib.hid fun W => stream_ref s W hs
    have R1 := Lib.hid fun W => namer_any 99 n W
    have R2 := Lib.hid fun W => namer_any 116 n W
    have R3 := Lib.hid fun W => namer_any 98 n W
    have e1 : ((nmS 99 n).toList == (nmS 99 n).toList) = true := by simp
    have e2 : ((nmS 116 n).toList == (nmS 116 n).toList) = true := by simp
    have e3 : ((nmS 98 n).toList == (nmS 98 n).toList) = true := by simp
    have e4 : (stS s == stS s) = true := by simp
    generalize nmS 99 n = a at *
    generalize nmS 116 n = b at *
    generalize nmS 98 n = c at *
    generalize stS s = q at *
    clear h hs0
    go_enter Try.func3, Try.ntmps3
    go_wp2_with fail
    refine (C1.out _).mono ?_
    rintro e w1 ⟨rfl, hb1⟩
    go_wp2_with fail
    refine (R1.out _).mono ?_
    rintro e w2 ⟨rfl, hb2⟩
    go_wp2_with fail
    refine (C2.out _).mono ?_
    rintro e w3 ⟨rfl, hb3⟩
    go_wp2_with fail
    refine (R2.out _).mono ?_
    rintro e w4 ⟨rfl, hb4⟩
    have b4 := bj hb1 (bj hb2 (bj hb3 hb4))
    clear hb1 hb2 hb3 hb4
    go_wp2_with fail
    refine (C3.out _).mono ?_
    rintro e w5 ⟨rfl, hb5⟩
    go_wp2_with fail
    refine (R3.out _).mono ?_
    rintro e w6 ⟨rfl, hb6⟩
    go_wp2_with fail
    refine (S1.out _).mono ?_
    rintro e w7 ⟨rfl, hb7⟩
    go_wp2_with fail
    refine (S2.out _).mono ?_
    rintro e w8 ⟨rfl, rfl⟩
    go_wp2_with fail
    refine (named_true api _).mono ?_
    rintro e w9 ⟨rfl, hb9⟩
    go_wp2
    go_ret
    exact ⟨rfl, bj b4 (bj hb5 (bj hb6 (bj hb7 hb9)))⟩

theorem nparse_walk (api : NamesApi) (s : ByteArray) (w : World) (hs : s.size ≤ maxLen) :
    Calls Try.prog 4 #[.string s] w fun e w' => e = .returned (.bool true) ∧ Below w.heap.size w w' := by
  have hs0 := hs
  unfold maxLen at hs0
  by_cases h : 300 < s.size
  · have t1 : decide ((300 : Int) < (s.size : Int)) = true := decide_eq_true (by omega)
    go_enter Try.func4, Try.ntmps4
    go_wp2_with fail
    refine (named_true api _).mono ?_
    rintro e w1 ⟨rfl, hb1⟩
    go_wp2
    go_ret
    exact ⟨rfl, hb1⟩
  · have t1 : decide ((300 : Int) < (s.size : Int)) = false := decide_eq_false (by omega)
    have C1 := Lib.hid fun W => api.parse s W hs
    have R1 := Lib.hid fun W => parser_any s W hs
    have e1 : ((npK s : Int) == (npK s : Int)) = true := by simp
    have e2 : ((npN s : Int) == (npN s : Int)) = true := by simp
    have e3 : (npOk s == npOk s) = true := by simp
    generalize npK s = a at *
    generalize npN s = b at *
    generalize npOk s = c at *
    clear h hs0
    go_enter Try.func4, Try.ntmps4
    go_wp2_with fail
    refine (C1.out _).mono ?_
    rintro e w1 ⟨rfl, hb1⟩
    go_wp2_with fail
    refine (R1.out _).mono ?_
    rintro e w2 ⟨rfl, rfl⟩
    go_wp2_with fail
    refine (named_true api _).mono ?_
    rintro e w9 ⟨rfl, hb9⟩
    go_wp2
    go_ret
    exact ⟨rfl, bj hb1 hb9⟩

set_option maxHeartbeats 1600000 in
theorem norder_walk (api : NamesApi) (a b : Nat) (w : World) (ha : a < 4294967296) (hb : b < 4294967296) :
    Calls Try.prog 6 #[.int .u32 (a : Nat), .int .u32 (b : Nat)] w fun e w' => e = .returned (.bool true) ∧ Below w.heap.size w w' := by
  have hm := Nat.mod_lt a (show 0 < 1000000 by decide)
  have hn := Nat.mod_lt b (show 0 < 1000000 by decide)
  have ea : (a : Int) % 1000000 = ((a % 1000000 : Nat) : Int) := by omega
  have eb : (b : Int) % 1000000 = ((b % 1000000 : Nat) : Int) := by omega
  have ta : (a : Int).tmod 1000000 = ((a % 1000000 : Nat) : Int) := by rw [Int.tmod_eq_emod_of_nonneg (by omega)]; exact ea
  have tb : (b : Int).tmod 1000000 = ((b % 1000000 : Nat) : Int) := by rw [Int.tmod_eq_emod_of_nonneg (by omega)]; exact eb
  generalize a % 1000000 = m at *
  generalize b % 1000000 = n at *
  have P1 := fun W => api.parse ⟨#[109, 97, 112]⟩ W (by decide)
  have P2 := fun W => api.parse ⟨#[110, 101, 119]⟩ W (by decide)
  rw [show npOk ⟨#[109, 97, 112]⟩ = false by decide] at P1
  rw [show npOk ⟨#[110, 101, 119]⟩ = false by decide] at P2
  have Q1 := Lib.hid P1
  have Q2 := Lib.hid P2
  have C1 := Lib.hid fun W => api.chunk (m : Nat) W (WalkArith.wf_i64 (by omega))
  have C2 := Lib.hid fun W => api.chunk (n : Nat) W (WalkArith.wf_i64 (by omega))
  have D1 := Lib.hid fun W => api.table (m : Nat) W (WalkArith.wf_i64 (by omega))
  have D2 := Lib.hid fun W => api.table (n : Nat) W (WalkArith.wf_i64 (by omega))
  have E1 := Lib.hid fun W => api.bloom (m : Nat) W (WalkArith.wf_i64 (by omega))
  have E2 := Lib.hid fun W => api.bloom (n : Nat) W (WalkArith.wf_i64 (by omega))
  have l1 := nm_less 99 (m := m) (n := n) (by omega) (by omega)
  have l2 := nm_less 116 (m := m) (n := n) (by omega) (by omega)
  have l3 := nm_eq 98 (m := m) (n := n) (by omega) (by omega)
  generalize nmS 99 (m : Nat) = x1 at *
  generalize nmS 99 (n : Nat) = x2 at *
  generalize nmS 116 (m : Nat) = y1 at *
  generalize nmS 116 (n : Nat) = y2 at *
  generalize nmS 98 (m : Nat) = z1 at *
  generalize nmS 98 (n : Nat) = z2 at *
  have q1 : (decide ((m : Int) < (n : Int)) == decide ((m : Int) < (n : Int))) = true := by simp
  have q2 : (((m : Int) == (n : Int)) == ((m : Int) == (n : Int))) = true := by simp
  clear P1 P2
  go_enter Try.func6, Try.ntmps6
  go_wp2_with fail
  refine (Q1.out _).mono ?_
  rintro e w1 ⟨rfl, hb1⟩
  go_wp2_with fail
  refine (Q2.out _).mono ?_
  rintro e w2 ⟨rfl, hb2⟩
  go_wp2_with fail
  refine (C1.out _).mono ?_
  rintro e w3 ⟨rfl, hb3⟩
  go_wp2_with fail
  refine (C2.out _).mono ?_
  rintro e w4 ⟨rfl, hb4⟩
  have b4 := bj hb1 (bj hb2 (bj hb3 hb4))
  clear hb1 hb2 hb3 hb4
  go_wp2_with fail
  refine (D1.out _).mono ?_
  rintro e w5 ⟨rfl, hb5⟩
  go_wp2_with fail
  refine (D2.out _).mono ?_
  rintro e w6 ⟨rfl, hb6⟩
  go_wp2_with fail
  refine (E1.out _).mono ?_
  rintro e w7 ⟨rfl, hb7⟩
  go_wp2_with fail
  refine (E2.out _).mono ?_
  rintro e w8 ⟨rfl, hb8⟩
  have b8 := bj b4 (bj hb5 (bj hb6 (bj hb7 hb8)))
  clear b4 hb5 hb6 hb7 hb8
  go_wp2_with fail
  refine (named_true api _).mono ?_
  rintro e w9 ⟨rfl, hb9⟩
  go_wp2
  go_ret
  exact ⟨rfl, bj b8 hb9⟩
end Go.Proofs.Ytaphmmbngjblhaa

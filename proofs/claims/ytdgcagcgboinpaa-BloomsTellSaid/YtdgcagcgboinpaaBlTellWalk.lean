/- The walk of BloomsTell. -/
import Derived.Test.YtdgcagcgboinpaaBlEx
import Derived.Test.YtdgcagcgboinpaaBlRef
import Derived.Deep.RegionHeld3
namespace Go.Proofs.Ytdgcagcgboinpaa.BlTell
open Go.RowKit
set_option linter.unusedVariables false

theorem probeB (h : Nat) (i b : Int) (w : World) (hh : h < 18446744073709551616) (wi : (Lit.int .i64 i).wf = true) (wb : (Lit.int .i64 b).wf = true) :
    Calls Try.prog 9 #[.int .u64 (h : Nat), .int .i64 i, .int .i64 b] w fun e w' => e = .returned (.int .i64 (prb h i b : Nat)) ∧ Below w.heap.size w w' :=
  (probe_any h i b w hh wi wb).mono fun e w' ⟨he, hw⟩ => ⟨he, hw ▸ Below.refl _ _⟩
theorem probeR (h : Nat) (i b : Int) (w : World) (hh : h < 18446744073709551616) (wi : (Lit.int .i64 i).wf = true) (wb : (Lit.int .i64 b).wf = true) :
    Calls Try.prog 10 #[.int .u64 (h : Nat), .int .i64 i, .int .i64 b] w fun e w' => e = .returned (.int .i64 (prb h i b : Nat)) ∧ Below w.heap.size w w' :=
  (probe_ref h i b w hh wi wb).mono fun e w' ⟨he, hw⟩ => ⟨he, hw ▸ Below.refl _ _⟩
theorem hasR (p : Int) (g : Nat) (s : ByteArray) (w : World) (hg : g < 18446744073709551616) (wp : (Lit.int .i64 p).wf = true) (hm : s.size ≤ 1000000) :
    Calls Try.prog 12 #[.string s, .int .i64 p, .int .u64 (g : Nat)] w fun e w' => e = .returned (.bool (hasL s.data.toList p g)) ∧ Below w.heap.size w w' :=
  (has_ref p g s w hg wp hm).mono fun e w' ⟨he, hw⟩ => ⟨he, hw ▸ Below.refl _ _⟩
theorem long (g : Nat) (a b : Int) (s : ByteArray) (w : World) (hs : s.size ≤ maxLen) (hl : 300 < s.size) :
    Calls Try.prog 3 #[.int .u64 (g : Nat), .agg #[.int .i64 a, .int .i64 b], .string s] w fun e w' => e = .returned (.bool true) ∧ Below w.heap.size w w' := by
  have HE := Lib.hid bloomed_true
  unfold maxLen at hs
  have l1 : (300 : Int) < (s.size : Int) := by omega
  go_enter Try.func3, Try.ntmps3
  go_wp2_with fail
  refine (HE.out _).mono ?_
  rintro e w2 ⟨rfl, hb2⟩
  go_wp2
  go_ret
  exact ⟨rfl, bj ((Below.refl _ w).alloc (Nat.le_refl _) _) hb2⟩

set_option maxHeartbeats 4000000 in
set_option maxRecDepth 100000 in
theorem short (g : Nat) (a b : Int) (s : ByteArray) (w : World) (hg : g < 18446744073709551616) (wa : (Lit.int .i64 a).wf = true) (wb : (Lit.int .i64 b).wf = true) (hs : s.size ≤ 300) :
    Calls Try.prog 3 #[.int .u64 (g : Nat), .agg #[.int .i64 a, .int .i64 b], .string s] w fun e w' => e = .returned (.bool true) ∧ Below w.heap.size w w' := by
  obtain ⟨w1, hw1⟩ : ∃ w1, w.alloc (.cells #[.int .i64 a, .int .i64 b] 23) = w1 := ⟨_, rfl⟩
  have hB1 : Below w.heap.size w w1 := by rw [← hw1]; exact (Below.refl _ w).alloc (Nat.le_refl _) _
  have hlt1 : w.heap.size < w1.heap.size := by rw [← hw1]; simp
  obtain ⟨c0, c1⟩ : w1.cell? ⟨w.heap.size, 0, none⟩ = some (.int .i64 a) ∧ w1.cell? ⟨w.heap.size, 1, none⟩ = some (.int .i64 b) := by rw [← hw1]; exact two_cells w a b _
  have HC0 := Lib.hid c0
  have HC1 := Lib.hid c1
  have HW1 := Lib.hid hw1
  have l1 : ¬ (300 : Int) < (s.size : Int) := by omega
  have HE := Lib.hid bloomed_true
  have HP1 := Lib.hid fun (k : Nat) (hk : k < 20) W => probeB g (k : Nat) b W hg (WalkArith.wf_i64 (by omega)) wb
  have HP2 := Lib.hid fun (k : Nat) (hk : k < 20) W => probeR g (k : Nat) b W hg (WalkArith.wf_i64 (by omega)) wb
  have HH1 := Lib.hid fun (k : Nat) (hk : k < 20) W => has_any (k : Nat) g s W hg (WalkArith.wf_i64 (by omega)) (by omega)
  have HH2 := Lib.hid fun (k : Nat) (hk : k < 20) W => hasR (k : Nat) g s W hg (WalkArith.wf_i64 (by omega)) (by omega)
  have HQ1 := Lib.hid fun W => probeB g a b W hg wa wb
  have HQ2 := Lib.hid fun W => probeR g a b W hg wa wb
  have HA1 := Lib.hid fun W => has_any a g s W hg wa (by omega)
  have HA2 := Lib.hid fun W => hasR a g s W hg wa (by omega)
  clear hw1
  go_enter Try.func3, Try.ntmps3
  go_wp2
  rw [HW1.out]
  go_loopw [7] (fun ii wr => ∃ k : Nat, k ≤ 20 ∧ ii = .int .i64 k ∧ Below w1.heap.size w1 wr) (fun ii _ => 20 - (intOf ii).toNat)
  case atStart => exact ⟨0, Nat.zero_le _, rfl, Below.refl _ _⟩
  case round =>
    obtain ⟨k, hk, rfl, hbel⟩ := hrel
    clear c0 c1
    have HS : Hid (∀ W, Below wr.heap.size wr W → Below wr.heap.size wr W ∧ W.cell? ⟨w.heap.size, 0, none⟩ = some (.int .i64 a) ∧ W.cell? ⟨w.heap.size, 1, none⟩ = some (.int .i64 b)) :=
      Lib.hid fun W hW => ⟨hW, ((bj hbel hW).cell (p := ⟨w.heap.size, 0, none⟩) hlt1).trans HC0.out, ((bj hbel hW).cell (p := ⟨w.heap.size, 1, none⟩) hlt1).trans HC1.out⟩
    have s0 := HS.out wr (Below.refl _ _)
    obtain ⟨-, d0, d1⟩ := s0
    have HBL := Lib.hid hbel
    clear hbel
    by_cases hlt : k < 20
    · have s1 : (k : Int) < 20 := by omega
      have HPK1 := Lib.hid fun W => HP1.out k hlt W
      have HPK2 := Lib.hid fun W => HP2.out k hlt W
      have HHK1 := Lib.hid fun W => HH1.out k hlt W
      have HHK2 := Lib.hid fun W => HH2.out k hlt W
      generalize prb g (k : Nat) b = r at *
      generalize hasL s.data.toList (k : Nat) g = o at *
      have e1 : ((r : Int) != (r : Int)) = false := by simp
      have e2 : (o != o) = false := by simp
      go_wp2_with fail
      go_region_held3 (fun W => Below wr.heap.size wr W ∧ W.cell? ⟨w.heap.size, 0, none⟩ = some (.int .i64 a) ∧ W.cell? ⟨w.heap.size, 1, none⟩ = some (.int .i64 b))
        (first | (with_reducible assumption) | ((with_reducible refine HS.out _ ?_); (repeat' (first | (with_reducible assumption) | (with_reducible exact Below.refl _ _) | (with_reducible refine Below.drew ?_))); done) | fail)
        (first
        | (go_at_call 9; ((with_reducible refine (HPK1.out _).mono ?_); rintro e w' ⟨rfl, hb⟩; have hB2 := hold_at hb (by with_reducible assumption)))
        | (go_at_call 10; ((with_reducible refine (HPK2.out _).mono ?_); rintro e w' ⟨rfl, hb⟩; have hB2 := hold_at hb (by with_reducible assumption)))
        | (go_at_call 11; ((with_reducible refine (HHK1.out _).mono ?_); rintro e w' ⟨rfl, hb⟩; have hB2 := hold_at hb (by with_reducible assumption)))
        | (go_at_call 12; ((with_reducible refine (HHK2.out _).mono ?_); rintro e w' ⟨rfl, hb⟩; have hB2 := hold_at hb (by with_reducible assumption)))
        | fail)
      all_goals
        go_wp2
        go_roundw
        case rel => exact ⟨k + 1, hlt, by go_num, bj HBL.out (And.left (by with_reducible assumption))⟩
        case measure => simp [intOf]; omega
    · obtain rfl : k = 20 := by omega
      generalize prb g a b = r at *
      generalize hasL s.data.toList a g = o at *
      have e1 : ((r : Int) == (r : Int)) = true := beq_self_eq_true _
      have e2 : (o == o) = true := beq_self_eq_true o
      go_wp2_with fail
      go_region_held3 (fun W => Below wr.heap.size wr W ∧ W.cell? ⟨w.heap.size, 0, none⟩ = some (.int .i64 a) ∧ W.cell? ⟨w.heap.size, 1, none⟩ = some (.int .i64 b))
        (first | (with_reducible assumption) | ((with_reducible refine HS.out _ ?_); (repeat' (first | (with_reducible assumption) | (with_reducible exact Below.refl _ _) | (with_reducible refine Below.drew ?_))); done) | fail)
        (first
        | (go_at_call 9; ((with_reducible refine (HQ1.out _).mono ?_); rintro e w' ⟨rfl, hb⟩; have hB2 := hold_at hb (by with_reducible assumption)))
        | (go_at_call 10; ((with_reducible refine (HQ2.out _).mono ?_); rintro e w' ⟨rfl, hb⟩; have hB2 := hold_at hb (by with_reducible assumption)))
        | (go_at_call 11; ((with_reducible refine (HA1.out _).mono ?_); rintro e w' ⟨rfl, hb⟩; have hB2 := hold_at hb (by with_reducible assumption)))
        | (go_at_call 12; ((with_reducible refine (HA2.out _).mono ?_); rintro e w' ⟨rfl, hb⟩; have hB2 := hold_at hb (by with_reducible assumption)))
        | (go_at_call 8; ((with_reducible refine (HE.out _).mono ?_); rintro e w' ⟨rfl, hb⟩; have hB2 := hold_at hb (by with_reducible assumption)))
        | fail)
      all_goals
        go_wp2
        go_ret
        exact ⟨rfl, bj hB1 (bj HBL.out (And.left (by with_reducible assumption)))⟩

theorem walk (a0 : Int) (a1 b1 : Int) (a2 : ByteArray) (w0 : (Lit.int .u64 a0).wf = true) (wa1 : (Lit.int .i64 a1).wf = true) (wb1 : (Lit.int .i64 b1).wf = true) (w2 : a2.size ≤ maxLen) (w : World) :
    Calls Try.prog 3 #[.int .u64 a0, .agg #[.int .i64 a1, .int .i64 b1], .string a2] w fun e w' => e = .returned (.bool true) ∧ Below w.heap.size w w' := by
  obtain ⟨g, rfl, hg⟩ := u64_nat w0
  by_cases h : a2.size ≤ 300
  · exact short g a1 b1 a2 w hg wa1 wb1 h
  · exact long g a1 b1 a2 w w2 (by omega)
end Go.Proofs.Ytdgcagcgboinpaa.BlTell

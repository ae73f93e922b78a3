/- The walk of BloomsMake. -/
import Derived.Test.YtdgcagcgboinpaaBlEx
import Derived.Test.YtdgcagcgboinpaaBlMakeRef
import Derived.Deep.RegionHeld3
namespace Go.Proofs.Ytdgcagcgboinpaa.BlMk
open Go.RowKit
set_option linter.unusedVariables false

theorem idx3 (x y z : Int) (j : Nat) (K : Int) (h : (j = 0 ∧ K = x) ∨ (j = 1 ∧ K = y) ∨ (j = 2 ∧ K = z)) (w : World) : (Instr.index 29 (.agg #[.int .i64 x, .int .i64 y, .int .i64 z]) (.int .i64 (j : Nat))).run Try.prog w = .ok (.int .i64 K) w := by
  rcases h with ⟨rfl, rfl⟩ | ⟨rfl, rfl⟩ | ⟨rfl, rfl⟩ <;> first | rfl | (simp [Instr.index, run_underlying Try.underlying29, asIntOf, go_sem])
theorem long (v : Value) (l : List Nat) (a b : Int) (w : World) (hv : RowOf u64V w v l) (hl : 100 < l.length) :
    Calls Try.prog 4 #[v, .agg #[.int .i64 a, .int .i64 b]] w fun e w' => e = .returned (.bool true) ∧ Below w.heap.size w w' := by
  obtain ⟨A, c, rfl⟩ := hv.form
  have HE := Lib.hid bloomed_true
  have l1 : (100 : Int) < (l.length : Int) := by omega
  go_enter Try.func4, Try.ntmps4
  go_wp2_with fail
  refine (HE.out _).mono ?_
  rintro e w2 ⟨rfl, hb2⟩
  go_wp2
  go_ret
  exact ⟨rfl, bj ((Below.refl _ w).alloc (Nat.le_refl _) _) hb2⟩

set_option maxHeartbeats 4000000 in
set_option maxRecDepth 100000 in
theorem short (v : Value) (l : List Nat) (a b : Int) (w : World) (hv : RowOf u64V w v l) (wl : Words l) (wa : (Lit.int .i64 a).wf = true) (wb : (Lit.int .i64 b).wf = true) (hl : l.length ≤ 100) :
    Calls Try.prog 4 #[v, .agg #[.int .i64 a, .int .i64 b]] w fun e w' => e = .returned (.bool true) ∧ Below w.heap.size w w' := by
  obtain ⟨A, c, rfl⟩ := hv.form
  obtain ⟨w1, hw1⟩ : ∃ w1, w.alloc (.cells #[.int .i64 a, .int .i64 b] 23) = w1 := ⟨_, rfl⟩
  have hB1 : Below w.heap.size w w1 := by rw [← hw1]; exact (Below.refl _ w).alloc (Nat.le_refl _) _
  have hlt1 : w.heap.size < w1.heap.size := by rw [← hw1]; simp
  obtain ⟨c0, c1⟩ : w1.cell? ⟨w.heap.size, 0, none⟩ = some (.int .i64 a) ∧ w1.cell? ⟨w.heap.size, 1, none⟩ = some (.int .i64 b) := by rw [← hw1]; exact two_cells w a b _
  have HC0 := Lib.hid c0
  have HC1 := Lib.hid c1
  have HW1 := Lib.hid hw1
  have l1 : ¬ (100 : Int) < (l.length : Int) := by omega
  have HE := Lib.hid bloomed_true
  have HV := Lib.hid fun W (hW : Below w.heap.size w W) => hv.below hW (Nat.le_refl _)
  clear hw1
  go_enter Try.func4, Try.ntmps4
  obtain ⟨t, ht⟩ : ∃ t, bits .and .i64 a 15 = t := ⟨_, rfl⟩
  have wt : (Lit.int .i64 t).wf = true := by rw [← ht]; exact wf_bits _ _ _ _
  obtain ⟨f, hf⟩ : ∃ f, bits .and .i64 b 4095 = f := ⟨_, rfl⟩
  have wff : (Lit.int .i64 f).wf = true := by rw [← hf]; exact wf_bits _ _ _ _
  obtain ⟨q, hq⟩ : ∃ q, wrap64 (8 * bits .and .i64 f 255) = q := ⟨_, rfl⟩
  have wq : (Lit.int .i64 q).wf = true := by rw [← hq]; exact wrap64_wf _
  go_wp2
  rw [HW1.out]
  try simp only [hf]
  try simp only [hq]
  clear hf hq
  go_loopw [22] (fun ii wr => ∃ k : Nat, k ≤ 3 ∧ ii = .int .i64 k ∧ Below w1.heap.size w1 wr) (fun ii _ => 3 - (intOf ii).toNat)
  case atStart => exact ⟨0, Nat.zero_le _, rfl, Below.refl _ _⟩
  case round =>
    obtain ⟨k, hk, rfl, hbel⟩ := hrel
    clear c0 c1
    have HS : Hid (∀ W, Below wr.heap.size wr W → Below wr.heap.size wr W ∧ W.cell? ⟨w.heap.size, 0, none⟩ = some (.int .i64 a) ∧ W.cell? ⟨w.heap.size, 1, none⟩ = some (.int .i64 b)) :=
      Lib.hid fun W hW => ⟨hW, ((bj hbel hW).cell (p := ⟨w.heap.size, 0, none⟩) hlt1).trans HC0.out, ((bj hbel hW).cell (p := ⟨w.heap.size, 1, none⟩) hlt1).trans HC1.out⟩
    have s0 := HS.out wr (Below.refl _ _)
    obtain ⟨-, d0, d1⟩ := s0
    have HBL := Lib.hid hbel
    clear hbel
    by_cases hlt : k < 3
    · obtain ⟨x, wx, hidx⟩ : ∃ x, (Lit.int .i64 x).wf = true ∧ ∀ w : World, (Instr.index 29 (.agg #[.int .i64 b, .int .i64 f, .int .i64 q]) (.int .i64 (k : Nat))).run Try.prog w = .ok (.int .i64 x) w := by
        have hk3 : k = 0 ∨ k = 1 ∨ k = 2 := by omega
        rcases hk3 with h | h | h
        · exact ⟨b, wb, fun w => idx3 b f q k b (Or.inl ⟨h, rfl⟩) w⟩
        · exact ⟨f, wff, fun w => idx3 b f q k f (Or.inr (Or.inl ⟨h, rfl⟩)) w⟩
        · exact ⟨q, wq, fun w => idx3 b f q k q (Or.inr (Or.inr ⟨h, rfl⟩)) w⟩
      have s1 : (k : Int) < 3 := by omega
      have HM1 := Lib.hid fun W (hW : Below wr.heap.size wr W) => make_any _ l a x W (HV.out W (bj hB1 (bj HBL.out hW))) wl (by omega) wa wx
      have HM2 := Lib.hid fun W (hW : Below wr.heap.size wr W) => make_ref _ l a x W (HV.out W (bj hB1 (bj HBL.out hW))) wl (by omega) wa wx
      have HN1 := Lib.hid fun W (hW : Below wr.heap.size wr W) => make_any _ l t x W (HV.out W (bj hB1 (bj HBL.out hW))) wl (by omega) wt wx
      have HN2 := Lib.hid fun W (hW : Below wr.heap.size wr W) => make_ref _ l t x W (HV.out W (bj hB1 (bj HBL.out hW))) wl (by omega) wt wx
      generalize bs (makeL l a x) = P at *
      generalize bs (makeL l t x) = R at *
      have e1 : (P.toList != P.toList) = false := by simp
      have e2 : (R.toList != R.toList) = false := by simp
      go_wp2_with fail
      go_region_held3 (fun W => Below wr.heap.size wr W ∧ W.cell? ⟨w.heap.size, 0, none⟩ = some (.int .i64 a) ∧ W.cell? ⟨w.heap.size, 1, none⟩ = some (.int .i64 b))
        (first | (with_reducible assumption) | ((with_reducible refine HS.out _ ?_); (repeat' (first | (with_reducible assumption) | (with_reducible exact Below.refl _ _) | (with_reducible refine Below.drew ?_))); done) | fail)
        (first
        | (go_at_call 13; ((with_reducible refine (HM1.out _ (And.left (by with_reducible assumption))).mono ?_); rintro e w' ⟨rfl, hb⟩; have hB2 := hold_at hb (by with_reducible assumption)))
        | (go_at_call 14; ((with_reducible refine (HM2.out _ (And.left (by with_reducible assumption))).mono ?_); rintro e w' ⟨rfl, hb⟩; have hB2 := hold_at hb (by with_reducible assumption)))
        | (go_at_call 13; ((with_reducible refine (HN1.out _ (And.left (by with_reducible assumption))).mono ?_); rintro e w' ⟨rfl, hb⟩; have hB2 := hold_at hb (by with_reducible assumption)))
        | (go_at_call 14; ((with_reducible refine (HN2.out _ (And.left (by with_reducible assumption))).mono ?_); rintro e w' ⟨rfl, hb⟩; have hB2 := hold_at hb (by with_reducible assumption)))
        | fail)
      all_goals
        go_wp2
        go_roundw
        case rel => exact ⟨k + 1, hlt, by go_num, bj HBL.out (And.left (by with_reducible assumption))⟩
        case measure => simp [intOf]; omega
    · obtain rfl : k = 3 := by omega
      go_wp2_with fail
      refine (HE.out _).mono ?_
      rintro e w2 ⟨rfl, hb2⟩
      go_wp2
      go_ret
      exact ⟨rfl, bj hB1 (bj HBL.out hb2)⟩

theorem walk (w : World) (v : Value) (l : List Nat) (a b : Int) (hv : RowOf u64V w v l) (wl : Words l) (wa : (Lit.int .i64 a).wf = true) (wb : (Lit.int .i64 b).wf = true) :
    Calls Try.prog 4 #[v, .agg #[.int .i64 a, .int .i64 b]] w fun e w' => e = .returned (.bool true) ∧ Below w.heap.size w w' := by
  by_cases h : l.length ≤ 100
  · exact short v l a b w hv wl wa wb h
  · exact long v l a b w hv (by omega)
end Go.Proofs.Ytdgcagcgboinpaa.BlMk

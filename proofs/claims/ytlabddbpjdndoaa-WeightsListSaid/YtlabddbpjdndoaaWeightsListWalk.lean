/- The walk of annalistlaw04.WeightsList. -/
import Derived.Test.YtlabddbpjdndoaaWeighed
import Derived.Test.YtlabddbpjdndoaaU64s
namespace Go.Proofs.Ytlabddbpjdndoaa.weightsListW
open Go.RowKit
set_option linter.unusedVariables false

theorem like_sums {o : Option Nat} {r s : Nat} (h1 : okF o r) (h2 : okF o s) : (decide (r = s) || nanB r && nanB s) = true := by
  cases o with
  | none => rw [h1.2, h2.2]; simp
  | some b => rw [h1.2, h2.2]; simp

theorem lessF_word {a x : Nat} (ha : a < 18446744073709551616) (hx : x < 18446744073709551616) : lessF a x < 18446744073709551616 ∧ moreF a x < 18446744073709551616 := by
  unfold lessF moreF
  refine ⟨?_, ?_⟩ <;> split <;> assumption
theorem fold_word (f : Nat → Nat → Nat) (hf : ∀ a x, a < 18446744073709551616 → x < 18446744073709551616 → f a x < 18446744073709551616) : ∀ (l : List Nat) (a : Nat), a < 18446744073709551616 → Words l → l.foldl f a < 18446744073709551616 := by
  intro l
  induction l with
  | nil => intro a ha _; exact ha
  | cons x l ih =>
    intro a ha hw
    obtain ⟨hx, hl⟩ := words_tail hw
    exact ih (f a x) (hf a x ha hx) hl
theorem words_take {l : List Nat} (h : Words l) (k : Nat) : Words (l.take k) := fun x hx => h x (List.mem_of_mem_take hx)
theorem least_word {l : List Nat} (h : Words l) : leastL l < 18446744073709551616 := fold_word lessF (fun _ _ ha hx => (lessF_word ha hx).1) _ _ (words_at h 0) (words_take h _)
theorem most_word {l : List Nat} (h : Words l) : mostL l < 18446744073709551616 := fold_word moreF (fun _ _ ha hx => (lessF_word ha hx).2) _ _ (words_at h 0) (words_take h _)

theorem long (v : Value) (l : List Nat) (w : World) (h : RowOf u64V w v l) (hl : 300 < l.length) :
    Calls Try.prog 4 #[v] w fun e w' => e = .returned (.bool true) ∧ Below w.heap.size w w' := by
  rcases h with ⟨rfl, a, cap, rfl⟩ | ⟨h0, b, off, cap, rfl, hcap, hb, hc⟩
  · cases hl
  · have t1 : decide ((300 : Int) < (l.length : Int)) = true := decide_eq_true (by omega)
    clear hc
    go_enter Try.func4, Try.ntmps4
    go_wp2_with fail
    refine (weighed_true _).mono ?_
    rintro e w' ⟨rfl, hb⟩
    go_wp2
    go_ret
    exact ⟨rfl, ‹Below _ _ _›⟩

theorem empty (v : Value) (w : World) (h : RowOf u64V w v []) :
    Calls Try.prog 4 #[v] w fun e w' => e = .returned (.bool true) ∧ Below w.heap.size w w' := by
  have hfl := Lib.hid (fun w' (hb : Below w.heap.size w w') => floats_any v [] w' (h.below hb (Nat.le_refl _)) (by decide))
  have hs := Lib.hid (fun u w' (hu : RowOf f64V w' u []) => sum_any u [] w' hu (by decide) words0)
  have ht := Lib.hid (fun u w' (hu : RowOf f64V w' u []) => sum_ref u [] w' hu (by decide) words0)
  have he := Lib.hid (fun u w' (hu : RowOf f64V w' u []) => ends_any u [] w' hu (by decide) words0)
  have hr := Lib.hid (fun u w' (hu : RowOf f64V w' u []) => ends_ref u [] w' hu (by decide) words0)
  simp only [if_true] at he hr
  rcases h with ⟨_, a, cap, rfl⟩ | ⟨h0, _⟩
  · go_enter Try.func4, Try.ntmps4
    go_wp2_with fail
    refine (hfl.out _ (Below.refl _ _)).mono ?_
    rintro e w1 ⟨u, rfl, hown, hb1, -⟩
    have hrow := RowOf.of_owns f64V hown
    clear hown
    go_wp2_with fail
    refine (he.out u w1 hrow).mono ?_
    rintro e w2 ⟨rfl, hb2⟩
    have hrow2 := hrow.below hb2 (Nat.le_refl _)
    have hb := hb1.trans (hb2.mono hb1.size)
    clear hb1 hb2 hrow
    go_wp2_with fail
    refine (hfl.out _ hb).mono ?_
    rintro e w3 ⟨u2, rfl, hown, hb1, -⟩
    have hrow := RowOf.of_owns f64V hown
    have hrow3 := hrow2.below hb1 (Nat.le_refl _)
    have hb2 := hb.trans (hb1.mono hb.size)
    clear hown hb hb1 hrow2
    go_wp2_with fail
    refine (hr.out u2 w3 hrow).mono ?_
    rintro e w4 ⟨rfl, hb1⟩
    have hrow2 := hrow3.below hb1 (Nat.le_refl _)
    have hb := hb2.trans (hb1.mono hb2.size)
    clear hb1 hb2 hrow3 hrow
    go_wp2_with fail
    refine (ex_same 0 0 true (by decide) (by decide) (by decide) _).mono ?_
    rintro e w5 ⟨rfl, rfl⟩
    go_wp2_with fail
    refine (ex_same 0 0 true (by decide) (by decide) (by decide) _).mono ?_
    rintro e w5 ⟨rfl, rfl⟩
    go_wp2_with fail
    refine (hs.out u _ hrow2).mono ?_
    rintro e w5 ⟨r, rfl, ok1, hb1⟩
    have hb2 := hb.trans (hb1.mono hb.size)
    clear hb hb1 hrow2
    go_wp2_with fail
    refine (hfl.out _ hb2).mono ?_
    rintro e w6 ⟨u3, rfl, hown, hb1, -⟩
    have hrow := RowOf.of_owns f64V hown
    have hb := hb2.trans (hb1.mono hb2.size)
    clear hown hb1 hb2
    go_wp2_with fail
    refine (ht.out u3 _ hrow).mono ?_
    rintro e w7 ⟨s, rfl, ok2, hb1⟩
    have hb2 := hb.trans (hb1.mono hb.size)
    have hlike := like_any r s w7 (okF_lt ok1) (okF_lt ok2)
    rw [like_sums ok1 ok2] at hlike
    clear hb hb1 hrow ok1 ok2
    have Hlike := Lib.hid hlike
    clear hlike
    go_wp2_with fail
    refine Hlike.out.mono ?_
    rintro e w8 ⟨rfl, rfl⟩
    go_wp2
    refine wp_loop_rounds 1 ?_
    rw [rounds_succ]
    go_wp2_with fail
    refine (weighed_true _).mono ?_
    rintro e w9 ⟨rfl, hb3⟩
    go_wp2
    go_ret
    exact ⟨rfl, hb2.trans (hb3.mono hb2.size)⟩
  · cases h0

set_option maxHeartbeats 2000000 in
theorem short (v : Value) (l : List Nat) (w : World) (h : RowOf u64V w v l) (hl : l.length ≤ 300) (hw : Words l) (h0 : 0 < l.length) :
    Calls Try.prog 4 #[v] w fun e w' => e = .returned (.bool true) ∧ Below w.heap.size w w' := by
  have hne : l ≠ [] := List.length_pos_iff.1 h0
  have hfl := Lib.hid (fun w' (hb : Below w.heap.size w w') => floats_any v l w' (h.below hb (Nat.le_refl _)) (by omega))
  have hs := Lib.hid (fun u w' (hu : RowOf f64V w' u l) => sum_any u l w' hu (by omega) hw)
  have ht := Lib.hid (fun u w' (hu : RowOf f64V w' u l) => sum_ref u l w' hu (by omega) hw)
  have he := Lib.hid (fun u w' (hu : RowOf f64V w' u l) => ends_any u l w' hu (by omega) hw)
  have hr := Lib.hid (fun u w' (hu : RowOf f64V w' u l) => ends_ref u l w' hu (by omega) hw)
  simp only [if_neg hne] at he hr
  have hL : leastL l < 18446744073709551616 := least_word hw
  have hM : mostL l < 18446744073709551616 := most_word hw
  have sL := Lib.hid (fun w => ex_same (leastL l) (leastL l) true hL hL (decide_eq_true rfl) w)
  have sM := Lib.hid (fun w => ex_same (mostL l) (mostL l) true hM hM (decide_eq_true rfl) w)
  clear hL hM
  generalize leastL l = p at *
  generalize mostL l = q at *
  have hg := fun (b : Nat) w => bits_run b w
  rcases h with ⟨rfl, _⟩ | ⟨_, b, off, cap, rfl, hcap, hb0, hc⟩
  · cases h0
  have t1 : decide ((300 : Int) < (l.length : Int)) = false := decide_eq_false (by omega)
  have HC := Lib.hid hc
  clear hc hcap
  go_enter Try.func4, Try.ntmps4
  go_wp2_with fail
  refine (hfl.out _ (Below.refl _ _)).mono ?_
  rintro e w1 ⟨u, rfl, hown, hb1, -⟩
  have hrow := RowOf.of_owns f64V hown
  clear hown
  go_wp2_with fail
  refine (he.out u w1 hrow).mono ?_
  rintro e w2 ⟨rfl, hb2⟩
  have hrow2 := hrow.below hb2 (Nat.le_refl _)
  have hb := hb1.trans (hb2.mono hb1.size)
  clear hb1 hb2 hrow
  go_wp2_with fail
  refine (hfl.out _ hb).mono ?_
  rintro e w3 ⟨u2, rfl, hown, hb1, -⟩
  have hrow := RowOf.of_owns f64V hown
  have hrow3 := hrow2.below hb1 (Nat.le_refl _)
  have hb2 := hb.trans (hb1.mono hb.size)
  clear hown hb hb1 hrow2
  go_wp2_with fail
  refine (hr.out u2 w3 hrow).mono ?_
  rintro e w4 ⟨rfl, hb1⟩
  have hrow2 := hrow3.below hb1 (Nat.le_refl _)
  have hb := hb2.trans (hb1.mono hb2.size)
  clear hb1 hb2 hrow3 hrow
  go_wp2_with fail
  refine (sL.out _).mono ?_
  rintro e w5 ⟨rfl, rfl⟩
  go_wp2_with fail
  refine (sM.out _).mono ?_
  rintro e w5 ⟨rfl, rfl⟩
  go_wp2_with fail
  refine (hs.out u _ hrow2).mono ?_
  rintro e w5 ⟨r, rfl, ok1, hb1⟩
  have hrow3 := hrow2.below hb1 (Nat.le_refl _)
  have hb2 := hb.trans (hb1.mono hb.size)
  clear hb hb1 hrow2
  go_wp2_with fail
  refine (hfl.out _ hb2).mono ?_
  rintro e w6 ⟨u3, rfl, hown, hb1, -⟩
  have hrow := RowOf.of_owns f64V hown
  have hrow2 := hrow3.below hb1 (Nat.le_refl _)
  have hb := hb2.trans (hb1.mono hb2.size)
  clear hown hb1 hb2 hrow3
  go_wp2_with fail
  refine (ht.out u3 _ hrow).mono ?_
  rintro e w7 ⟨s, rfl, ok2, hb1⟩
  have hrow3 := hrow2.below hb1 (Nat.le_refl _)
  have hb2 := hb.trans (hb1.mono hb.size)
  have hlike := like_any r s w7 (okF_lt ok1) (okF_lt ok2)
  rw [like_sums ok1 ok2] at hlike
  clear hb hb1 hrow ok1 ok2 hrow2
  have Hlike := Lib.hid hlike
  clear hlike
  go_wp2_with fail
  refine Hlike.out.mono ?_
  rintro e w8 ⟨rfl, rfl⟩
  rcases hrow3 with ⟨rfl, _⟩ | ⟨_, g, go, gcap, rfl, _, hg0, hgc⟩
  · cases h0
  have HG := Lib.hid hgc
  clear hgc Hlike
  go_wp2_with fail
  go_loopw [10] (fun i wr => ∃ k : Nat, k ≤ l.length ∧ i = .int .i64 k ∧ Below w7.heap.size w7 wr) (fun i _ => l.length - (intOf i).toNat)
  case atStart => exact ⟨0, Nat.zero_le _, rfl, Below.refl _ _⟩
  case round =>
    obtain ⟨k, hk, rfl, hbr⟩ := hrel
    by_cases hlt : k < l.length
    · have c1 : wr.cell? ⟨b, off + k, none⟩ = some (.int .u64 (l.getD k 0 : Nat)) := ((hb2.trans (hbr.mono hb2.size)).cell (p := ⟨b, off + k, none⟩) hb0).trans (HC.out k hlt)
      have c2 : wr.cell? ⟨g, go + k, none⟩ = some (.float .f64 (l.getD k 0)) := (hbr.cell (p := ⟨g, go + k, none⟩) hg0).trans (HG.out k hlt)
      generalize l.getD k 0 = x at *
      have s1 : (k : Int) < (l.length : Int) := by omega
      have s2 : ((x : Int) != (x : Int)) = false := by simp
      go_wp2_with fail
      go_quiet (fail)
      go_wp2
      go_roundw
      case rel => exact ⟨k + 1, by omega, by go_num, below_drewN hbr _⟩
      case measure => simp [intOf]; omega
    · obtain rfl : k = l.length := by omega
      have s1 : ¬ (l.length : Int) < (l.length : Int) := by omega
      have hb := hb2.trans (hbr.mono hb2.size)
      clear hb2 hbr
      go_wp2_with fail
      refine (weighed_true _).mono ?_
      rintro e w9 ⟨rfl, hb3⟩
      go_wp2
      go_ret
      exact ⟨rfl, hb.trans (hb3.mono hb.size)⟩

theorem walk (w : World) (v : Value) (l : List Nat) (h : RowOf u64V w v l) (hw : Words l) :
    Calls Try.prog 4 #[v] w fun e w' => e = .returned (.bool true) ∧ Below w.heap.size w w' := by
  by_cases h1 : 300 < l.length
  · exact long v l w h h1
  · by_cases h0 : l = []
    · subst h0; exact empty v w h
    · exact short v l w h (by omega) hw (List.length_pos_iff.2 h0)
end Go.Proofs.Ytlabddbpjdndoaa.weightsListW

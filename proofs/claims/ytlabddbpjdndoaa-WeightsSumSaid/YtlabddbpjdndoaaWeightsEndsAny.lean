/- The ends of a list: the program's. -/
import Derived.Test.YtlabddbpjdndoaaWeights
import Derived.WalkMore
namespace Go.Proofs.Ytlabddbpjdndoaa
open Go.RowKit
set_option linter.unusedVariables false

theorem fold_word (f : Nat → Nat → Nat) (hf : ∀ a x, a < 18446744073709551616 → x < 18446744073709551616 → f a x < 18446744073709551616) : ∀ (l : List Nat) (a : Nat), a < 18446744073709551616 → Words l → l.foldl f a < 18446744073709551616 := by
  intro l
  induction l with
  | nil => intro a ha _; exact ha
  | cons x l ih =>
    intro a ha hw
    obtain ⟨hx, hl⟩ := words_tail hw
    exact ih (f a x) (hf a x ha hx) hl
theorem words_take {l : List Nat} (h : Words l) (k : Nat) : Words (l.take k) := fun x hx => h x (List.mem_of_mem_take hx)
theorem leastK_word {l : List Nat} (h : Words l) (k : Nat) : leastK l k < 18446744073709551616 := fold_word lessF (fun _ _ ha hx => by unfold lessF; split <;> assumption) _ _ (words_at h 0) (words_take h _)
theorem mostK_word {l : List Nat} (h : Words l) (k : Nat) : mostK l k < 18446744073709551616 := fold_word moreF (fun _ _ ha hx => by unfold moreF; split <;> assumption) _ _ (words_at h 0) (words_take h _)
theorem least_most (l : List Nat) : ∀ k, k ≤ l.length → keyS (leastK l k) ≤ keyS (mostK l k) := by
  intro k
  induction k with
  | zero => intro _; exact Nat.le_refl _
  | succ k ih =>
    intro hk
    have h := ih (by omega)
    rw [leastK_next l k (by omega), mostK_next l k (by omega)]
    unfold lessF moreF
    split <;> split <;> omega

theorem leastK_one (l : List Nat) (h : 0 < l.length) : leastK l 1 = l.getD 0 0 := by
  rw [leastK_next l 0 h]
  show lessF (l.getD 0 0) (l.getD 0 0) = _
  unfold lessF
  split <;> rfl
theorem mostK_one (l : List Nat) (h : 0 < l.length) : mostK l 1 = l.getD 0 0 := by
  rw [mostK_next l 0 h]
  show moreF (l.getD 0 0) (l.getD 0 0) = _
  unfold moreF
  split <;> rfl

set_option maxHeartbeats 1000000 in
theorem ends_any (v : Value) (l : List Nat) (w : World) (h : RowOf f64V w v l) (hl : l.length ≤ 1000) (hw : Words l) :
    Calls Try.prog 21 #[v] w fun e w' => e = .returned (if l = [] then .tuple #[.float .f64 0, .float .f64 0, .bool false] else .tuple #[.float .f64 (leastL l), .float .f64 (mostL l), .bool true]) ∧ Below w.heap.size w w' := by
  rcases h with ⟨rfl, a, cap, rfl⟩ | ⟨h0, b, off, cap, rfl, hcap, hb, hc⟩
  · rw [if_pos rfl]
    go_enter Try.func21, Try.ntmps21
    go_wp2
    go_step3
    go_wp2
    (try rw [Exit.noGoto_ret])
    go_ret3
    exact ⟨rfl, Below.refl _ _⟩
  · have hne : l ≠ [] := List.length_pos_iff.1 h0
    rw [if_neg hne]
    obtain ⟨n, hn⟩ : ∃ n, l.length = n + 1 := ⟨l.length - 1, by omega⟩
    have e0 : ((n : Int) + 1 == 0) = false := beq_eq_false_iff_ne.2 (by omega)
    have c0 : w.cell? ⟨b, off, none⟩ = some (.float .f64 (l.getD 0 0)) := hc 0 h0
    have s0 : (0 : Int) < ((n + 1 : Nat) : Int) := by omega
    have HZ := Lib.hid (show leastK l 1 = l.getD 0 0 ∧ mostK l 1 = l.getD 0 0 from ⟨leastK_one l h0, mostK_one l h0⟩)
    have HC := Lib.hid hc
    have HN := Lib.hid hn
    clear hc
    rw [hn] at hcap hl h0 ⊢
    clear hn
    generalize l.getD 0 0 = z at *
    by_cases q : cap = 1
    · obtain rfl : n = 0 := by omega
      subst q
      have HL := Lib.hid (show leastL l = z by rw [show leastL l = leastK l l.length from rfl, HN.out]; exact HZ.out.1)
      have HM := Lib.hid (show mostL l = z by rw [show mostL l = mostK l l.length from rfl, HN.out]; exact HZ.out.2)
      go_enter Try.func21, Try.ntmps21
      go_wp2_with fail
      go_step3
      go_wp2_with fail
      go_quiet (fail)
      rename_i nq _
      have hb1 := below_drewN (Below.refl w.heap.size w) nq
      clear c0 HC
      generalize w.drewN nq = wq at *
      go_wp2
      go_step3
      go_wp2
      refine wp_loop_rounds 1 ?_
      rw [rounds_succ]
      go_wp2
      (try rw [Exit.noGoto_ret])
      go_ret3
      exact ⟨by rw [HL.out, HM.out]; rfl, hb1⟩
    go_enter Try.func21, Try.ntmps21
    go_wp2_with fail
    go_step3
    go_wp2_with fail
    go_quiet (fail)
    rename_i nq _
    have hb1 := below_drewN (Below.refl w.heap.size w) nq
    have HC2 := Lib.hid (fun i hi => (show (w.drewN nq).cell? ⟨b, off + i, none⟩ = some (f64V (l.getD i 0)) from HC.out i hi))
    have hb2 : b < (w.drewN nq).heap.size := hb
    clear c0 HC
    generalize w.drewN nq = wq at *
    go_wp2
    go_step3
    go_wp2
    go_loopw [2, 3, 19] (fun u v i wr => ∃ k : Nat, k ≤ n ∧ i = .int .i64 k ∧ u = .float .f64 (leastK l (k + 1)) ∧ v = .float .f64 (mostK l (k + 1)) ∧ Below wq.heap.size wq wr) (fun _ _ i _ => n - (intOf i).toNat)
    case atStart => exact ⟨0, Nat.zero_le _, rfl, by rw [HZ.out.1], by rw [HZ.out.2], Below.refl _ _⟩
    case round =>
      obtain ⟨k, hk, rfl, rfl, rfl, hbel⟩ := hrel
      by_cases hlt : k < n
      · have hlt' : k + 1 < l.length := by rw [HN.out]; omega
        have c1 : wr.cell? ⟨b, off + 1 + k, none⟩ = some (.float .f64 (l.getD (k + 1) 0)) := by
          rw [show off + 1 + k = off + (k + 1) by omega]
          exact (hbel.cell (p := ⟨b, off + (k + 1), none⟩) hb2).trans (HC2.out (k + 1) hlt')
        have wx := words_at hw (k + 1)
        have wa : leastK l (k + 1) < 18446744073709551616 := leastK_word hw (k + 1)
        have wb : mostK l (k + 1) < 18446744073709551616 := mostK_word hw (k + 1)
        have n1 := Lib.hid (leastK_next l (k + 1) hlt')
        have n2 := Lib.hid (mostK_next l (k + 1) hlt')
        have hlm := least_most l (k + 1) (by omega)
        clear hlt'
        unfold lessF at n1
        unfold moreF at n2
        generalize l.getD (k + 1) 0 = x at *
        generalize leastK l (k + 1) = s at *
        generalize mostK l (k + 1) = t at *
        have k1 := Lib.hid (fun w => less_any x s w wx wa)
        have k2 := Lib.hid (fun w => less_any t x w wb wx)
        clear wx wa wb
        generalize keyS x = kx at *
        generalize keyS s = ks at *
        generalize keyS t = kt at *
        have s1 : (k : Int) < (n : Int) := by omega
        by_cases q1 : kx < ks
        · have m1 := Lib.hid (show leastK l (k + 1 + 1) = x by rw [n1.out, if_pos q1])
          have m2 := Lib.hid (show mostK l (k + 1 + 1) = t by rw [n2.out, if_neg (by omega)])
          have e1 : decide (kx < ks) = true := decide_eq_true q1
          rw [e1] at k1
          clear n1 n2
          go_wp2_with fail
          refine (k1.out _).mono ?_
          rintro e w' ⟨rfl, rfl⟩
          go_wp2
          go_roundw
          case rel => exact ⟨k + 1, by omega, by go_num, by rw [m1.out], by rw [m2.out], hbel⟩
          case measure => simp [intOf]; omega
        · have m1 := Lib.hid (show leastK l (k + 1 + 1) = s by rw [n1.out, if_neg q1])
          have e1 : decide (kx < ks) = false := decide_eq_false q1
          rw [e1] at k1
          by_cases q2 : kt < kx
          · have m2 := Lib.hid (show mostK l (k + 1 + 1) = x by rw [n2.out, if_pos q2])
            have e2 : decide (kt < kx) = true := decide_eq_true q2
            rw [e2] at k2
            clear n1 n2
            go_wp2_with fail
            refine (k1.out _).mono ?_
            rintro e w' ⟨rfl, rfl⟩
            go_wp2_with fail
            refine (k2.out _).mono ?_
            rintro e w' ⟨rfl, rfl⟩
            go_wp2
            go_roundw
            case rel => exact ⟨k + 1, by omega, by go_num, by rw [m1.out], by rw [m2.out], hbel⟩
            case measure => simp [intOf]; omega
          · have m2 := Lib.hid (show mostK l (k + 1 + 1) = t by rw [n2.out, if_neg q2])
            have e2 : decide (kt < kx) = false := decide_eq_false q2
            rw [e2] at k2
            clear n1 n2
            go_wp2_with fail
            refine (k1.out _).mono ?_
            rintro e w' ⟨rfl, rfl⟩
            go_wp2_with fail
            refine (k2.out _).mono ?_
            rintro e w' ⟨rfl, rfl⟩
            go_wp2
            go_roundw
            case rel => exact ⟨k + 1, by omega, by go_num, by rw [m1.out], by rw [m2.out], hbel⟩
            case measure => simp [intOf]; omega
      · obtain rfl : k = n := by omega
        have s1 : ¬ (k : Int) < (k : Int) := by omega
        have HL := Lib.hid (show leastL l = leastK l (k + 1) by rw [← HN.out]; rfl)
        have HM := Lib.hid (show mostL l = mostK l (k + 1) by rw [← HN.out]; rfl)
        generalize leastK l (k + 1) = s at *
        generalize mostK l (k + 1) = t at *
        have hbe := hb1.trans (hbel.mono hb1.size)
        clear hb1 hbel
        go_wp2
        (try rw [Exit.noGoto_ret])
        go_ret3
        exact ⟨by rw [HL.out, HM.out]; rfl, hbe⟩
end Go.Proofs.Ytlabddbpjdndoaa

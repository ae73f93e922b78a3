/- The walk of EntriesBack. -/
import Derived.Test.YtjbhahcogdpkpaaEntered
import Derived.Test.YtjbhahcogdpkpaaEntPut
import Derived.Test.YtjbhahcogdpkpaaEntGet
namespace Go.Proofs.Ytjbhahcogdpkpaa.EnBack
open Go.RowKit Go.Shelf
set_option linter.unusedVariables false
attribute [local go_sem ↓] Go.wp_at_zero Go.wp_at_succ

/-- Both entries in memory. -/
def Pair2 (W : World) (g : Nat) (a b : EntS) : Prop := (W.cell? ⟨g, 0, none⟩ = some (.int .u64 (a.h : Nat)) ∧ W.cell? ⟨g, 1, none⟩ = some (.int .i64 a.v) ∧ W.cell? ⟨g, 2, none⟩ = some (.int .i64 a.p)) ∧
  (W.cell? ⟨g + 1, 0, none⟩ = some (.int .u64 (b.h : Nat)) ∧ W.cell? ⟨g + 1, 1, none⟩ = some (.int .i64 b.v) ∧ W.cell? ⟨g + 1, 2, none⟩ = some (.int .i64 b.p))
theorem pair_new (w : World) (a b : EntS) : ∀ W, Below ((w.alloc (.cells #[.int .u64 (a.h : Nat), .int .i64 a.v, .int .i64 a.p] 24)).alloc (.cells #[.int .u64 (b.h : Nat), .int .i64 b.v, .int .i64 b.p] 24)).heap.size ((w.alloc (.cells #[.int .u64 (a.h : Nat), .int .i64 a.v, .int .i64 a.p] 24)).alloc (.cells #[.int .u64 (b.h : Nat), .int .i64 b.v, .int .i64 b.p] 24)) W → Pair2 W w.heap.size a b := by
  intro W hW
  have E1 : EntAt ((w.alloc (.cells #[.int .u64 (a.h : Nat), .int .i64 a.v, .int .i64 a.p] 24)).alloc (.cells #[.int .u64 (b.h : Nat), .int .i64 b.v, .int .i64 b.p] 24)) w.heap.size a.h a.v a.p := Blok.alloc (Blok.new _ _ _) _
  have E2 : EntAt ((w.alloc (.cells #[.int .u64 (a.h : Nat), .int .i64 a.v, .int .i64 a.p] 24)).alloc (.cells #[.int .u64 (b.h : Nat), .int .i64 b.v, .int .i64 b.p] 24)) (w.heap.size + 1) b.h b.v b.p := by
    have := Blok.new (w.alloc (.cells #[.int .u64 (a.h : Nat), .int .i64 a.v, .int .i64 a.p] 24)) 24 #[.int .u64 (b.h : Nat), .int .i64 b.v, .int .i64 b.p]
    rw [World.size_alloc] at this
    exact this
  have F1 := EntAt.facts (Blok.below E1 hW)
  have F2 := EntAt.facts (Blok.below E2 hW)
  exact ⟨⟨F1.1, F1.2.1, F1.2.2.1⟩, F2.1, F2.2.1, F2.2.2.1⟩
theorem putE_le {x : EntS} : (putE x).size ≤ maxLen := by
  cases h : mayE x with
  | true => rw [putE_size h]; unfold maxLen; omega
  | false => rw [en_put_no h]; exact Nat.zero_le _

set_option maxHeartbeats 4000000 in
set_option maxRecDepth 100000 in
theorem no (a b : EntS) (w : World) (ha : EntOk a) (hb : EntOk b) (hm : mayE a = false) :
    Calls Try.prog 5 #[entB a, entB b] w fun e w' => e = .returned (.bool true) ∧ Below w.heap.size w w' := by
  have hbw := below_two w (.cells #[.int .u64 (a.h : Nat), .int .i64 a.v, .int .i64 a.p] 24) (.cells #[.int .u64 (b.h : Nat), .int .i64 b.v, .int .i64 b.p] 24)
  have HP := pair_new w a b
  have PA := fun W => eput_any a W ha
  rw [en_put_no hm] at PA
  have HPA := Lib.hid PA
  have HPB := Lib.hid fun W => eput_any b W hb
  have G := fun W => eget_any ByteArray.empty W (Nat.zero_le _)
  rw [enG_no en_empty, en_empty] at G
  have HG := Lib.hid G
  have hm2 := of_decide_eq_false hm
  have HM := Lib.hid hm2
  generalize putE b = Q at *
  obtain ⟨w1, hw1⟩ : ∃ w1, (w.alloc (.cells #[.int .u64 (a.h : Nat), .int .i64 a.v, .int .i64 a.p] 24)).alloc (.cells #[.int .u64 (b.h : Nat), .int .i64 b.v, .int .i64 b.p] 24) = w1 := ⟨_, rfl⟩
  rw [hw1] at hbw HP
  have HW1 := Lib.hid hw1
  have HS : Hid (∀ W, Below w1.heap.size w1 W → Below w1.heap.size w1 W ∧ Pair2 W w.heap.size a b) := Lib.hid fun W hW => ⟨hW, HP W hW⟩
  unfold Pair2 at HS
  clear PA G hm hm2 ha hb HP hw1
  have s0 := HS.out w1 (Below.refl _ _)
  obtain ⟨-, ⟨a0, a1, a2⟩, ⟨b0, b1, b2⟩⟩ := s0
  have hcase : ¬ 0 ≤ a.v ∨ (0 ≤ a.v ∧ ¬ 0 ≤ a.p) := by have := HM.out; omega
  rcases hcase with hv | ⟨hv, hp⟩
  all_goals
   go_enter Try.func5, Try.ntmps5
   go_wp2_with fail
   rw [HW1.out]
   go_region_held3 (fun W => Below w1.heap.size w1 W ∧ (W.cell? ⟨w.heap.size, 0, none⟩ = some (.int .u64 (a.h : Nat)) ∧ W.cell? ⟨w.heap.size, 1, none⟩ = some (.int .i64 a.v) ∧ W.cell? ⟨w.heap.size, 2, none⟩ = some (.int .i64 a.p)) ∧
       (W.cell? ⟨w.heap.size + 1, 0, none⟩ = some (.int .u64 (b.h : Nat)) ∧ W.cell? ⟨w.heap.size + 1, 1, none⟩ = some (.int .i64 b.v) ∧ W.cell? ⟨w.heap.size + 1, 2, none⟩ = some (.int .i64 b.p)))
     (first | (with_reducible assumption) | ((with_reducible refine HS.out _ ?_); (repeat' (first | (with_reducible assumption) | (with_reducible exact Below.refl _ _) | (with_reducible refine Below.drew ?_))); done) | fail)
     (first
     | (go_at_call 12; ((with_reducible refine (HPA.out _).mono ?_); rintro e w' ⟨rfl, hb⟩; have hB2 := hold_go hb (by with_reducible assumption)))
     | (go_at_call 12; ((with_reducible refine (HPB.out _).mono ?_); rintro e w' ⟨rfl, hb⟩; have hB3 := hold_go hb (by with_reducible assumption)))
     | fail)
   all_goals
     have HQ := Lib.hid (bj hbw hB3)
     have HZ := Lib.hid fun W hW => HS.out W (bj hB3 hW)
     clear hbw a0 a1 a2 b0 b1 b2
     go_wp2_with fail
     refine (HG.out _).mono ?_
     rintro e w4 ⟨rfl, hb4⟩
     have hb5 := bj HQ.out hb4
     have hb6 : Below w.heap.size w (w4.alloc (.cells #[.int .u64 0, .int .i64 0, .int .i64 0] 24)) := hb5.alloc hb5.size _
     obtain ⟨-, ⟨a0, a1, a2⟩, ⟨b0, b1, b2⟩⟩ := HZ.out (w4.alloc (.cells #[.int .u64 0, .int .i64 0, .int .i64 0] 24)) (hb4.alloc hb4.size _)
     clear hB2 hB3 hb4 HQ HZ hb5
     clear hb
     go_wp2_with fail
     refine (entered_true _).mono ?_
     rintro e w6 ⟨rfl, hb7⟩
     go_wp2
     go_ret
     exact ⟨rfl, bj hb6 hb7⟩
set_option maxHeartbeats 4000000 in
set_option maxRecDepth 100000 in
theorem half (a b : EntS) (w : World) (ha : EntOk a) (hb : EntOk b) (hm : mayE a = true) (hmb : mayE b = false) :
    Calls Try.prog 5 #[entB a, entB b] w fun e w' => e = .returned (.bool true) ∧ Below w.heap.size w w' := by
  have hbw := below_two w (.cells #[.int .u64 (a.h : Nat), .int .i64 a.v, .int .i64 a.p] 24) (.cells #[.int .u64 (b.h : Nat), .int .i64 b.v, .int .i64 b.p] 24)
  have HP := pair_new w a b
  have HPA := Lib.hid fun W => eput_any a W ha
  have HPB := Lib.hid fun W => eput_any b W hb
  have G := fun W => eget_any (putE a) W putE_le
  rw [(en_put ha hm).1, (en_put ha hm).2] at G
  have HG := Lib.hid G
  have hv := (of_decide_eq_true hm).1
  have hp := (of_decide_eq_true hm).2
  have HM := Lib.hid (of_decide_eq_false hmb)
  have hz := putE_size hm
  have tz : (((putE a).size : Int) != 24) = false := by simp; omega
  have hne := fun W => ent_neq a a W
  rw [decide_eq_true rfl] at hne
  generalize putE b = Q at *
  generalize putE a = P at *
  obtain ⟨w1, hw1⟩ : ∃ w1, (w.alloc (.cells #[.int .u64 (a.h : Nat), .int .i64 a.v, .int .i64 a.p] 24)).alloc (.cells #[.int .u64 (b.h : Nat), .int .i64 b.v, .int .i64 b.p] 24) = w1 := ⟨_, rfl⟩
  rw [hw1] at hbw HP
  have HW1 := Lib.hid hw1
  have HS : Hid (∀ W, Below w1.heap.size w1 W → Below w1.heap.size w1 W ∧ Pair2 W w.heap.size a b) := Lib.hid fun W hW => ⟨hW, HP W hW⟩
  unfold Pair2 at HS
  clear G hm hmb hz ha hb HP hw1
  have s0 := HS.out w1 (Below.refl _ _)
  obtain ⟨-, ⟨a0, a1, a2⟩, ⟨b0, b1, b2⟩⟩ := s0
  have hcase : b.v < 0 ∨ (¬ b.v < 0 ∧ b.p < 0) := by have := HM.out; omega
  rcases hcase with hu | ⟨hu, hu2⟩
  all_goals
   go_enter Try.func5, Try.ntmps5
   go_wp2_with fail
   rw [HW1.out]
   go_region_held3 (fun W => Below w1.heap.size w1 W ∧ (W.cell? ⟨w.heap.size, 0, none⟩ = some (.int .u64 (a.h : Nat)) ∧ W.cell? ⟨w.heap.size, 1, none⟩ = some (.int .i64 a.v) ∧ W.cell? ⟨w.heap.size, 2, none⟩ = some (.int .i64 a.p)) ∧
       (W.cell? ⟨w.heap.size + 1, 0, none⟩ = some (.int .u64 (b.h : Nat)) ∧ W.cell? ⟨w.heap.size + 1, 1, none⟩ = some (.int .i64 b.v) ∧ W.cell? ⟨w.heap.size + 1, 2, none⟩ = some (.int .i64 b.p)))
     (first | (with_reducible assumption) | ((with_reducible refine HS.out _ ?_); (repeat' (first | (with_reducible assumption) | (with_reducible exact Below.refl _ _) | (with_reducible refine Below.drew ?_))); done) | fail)
     (first
     | (go_at_call 12; ((with_reducible refine (HPA.out _).mono ?_); rintro e w' ⟨rfl, hb⟩; have hB2 := hold_go hb (by with_reducible assumption)))
     | (go_at_call 12; ((with_reducible refine (HPB.out _).mono ?_); rintro e w' ⟨rfl, hb⟩; have hB3 := hold_go hb (by with_reducible assumption)))
     | fail)
   all_goals
     have HQ := Lib.hid (bj hbw hB3)
     have HZ := Lib.hid fun W hW => HS.out W (bj hB3 hW)
     clear hbw a0 a1 a2 b0 b1 b2
     go_wp2_with fail
     refine (HG.out _).mono ?_
     rintro e w4 ⟨rfl, hb4⟩
     have hb5 := bj HQ.out hb4
     have hb6 : Below w.heap.size w (w4.alloc (.cells #[.int .u64 (a.h : Nat), .int .i64 a.v, .int .i64 a.p] 24)) := hb5.alloc hb5.size _
     obtain ⟨-, ⟨a0, a1, a2⟩, ⟨b0, b1, b2⟩⟩ := HZ.out (w4.alloc (.cells #[.int .u64 (a.h : Nat), .int .i64 a.v, .int .i64 a.p] 24)) (hb4.alloc hb4.size _)
     clear hB2 hB3 hb4 HQ HZ hb5
     clear hb
     go_wp2_with fail
     refine (entered_true _).mono ?_
     rintro e w6 ⟨rfl, hb7⟩
     go_wp2
     go_ret
     exact ⟨rfl, bj hb6 hb7⟩
set_option maxHeartbeats 4000000 in
set_option maxRecDepth 100000 in
theorem yes (a b : EntS) (w : World) (ha : EntOk a) (hb : EntOk b) (hm : mayE a = true) (hmb : mayE b = true) :
    Calls Try.prog 5 #[entB a, entB b] w fun e w' => e = .returned (.bool true) ∧ Below w.heap.size w w' := by
  have hbw := below_two w (.cells #[.int .u64 (a.h : Nat), .int .i64 a.v, .int .i64 a.p] 24) (.cells #[.int .u64 (b.h : Nat), .int .i64 b.v, .int .i64 b.p] 24)
  have HP := pair_new w a b
  have HPA := Lib.hid fun W => eput_any a W ha
  have HPB := Lib.hid fun W => eput_any b W hb
  have G := fun W => eget_any (putE a) W putE_le
  rw [(en_put ha hm).1, (en_put ha hm).2] at G
  have HG := Lib.hid G
  have hv := (of_decide_eq_true hm).1
  have hp := (of_decide_eq_true hm).2
  have hu : ¬ b.v < 0 := by have := (of_decide_eq_true hmb).1; omega
  have hu2 : ¬ b.p < 0 := by have := (of_decide_eq_true hmb).2; omega
  have hlt := put_less ha hb hm hmb
  have heq := put_eq ha hb hm hmb
  have HL := Lib.hid fun W => less_any a b W
  have hab := fun W => ent_eql a b W
  have e1 : (lessE a b == lessE a b) = true := by simp
  have e2 : (decide (a = b) == decide (a = b)) = true := by simp
  generalize lessE a b = o at *
  generalize decide (a = b) = q at *
  have hz := putE_size hm
  have tz : (((putE a).size : Int) != 24) = false := by simp; omega
  have hne := fun W => ent_neq a a W
  rw [decide_eq_true rfl] at hne
  generalize putE b = Q at *
  generalize putE a = P at *
  obtain ⟨w1, hw1⟩ : ∃ w1, (w.alloc (.cells #[.int .u64 (a.h : Nat), .int .i64 a.v, .int .i64 a.p] 24)).alloc (.cells #[.int .u64 (b.h : Nat), .int .i64 b.v, .int .i64 b.p] 24) = w1 := ⟨_, rfl⟩
  rw [hw1] at hbw HP
  have HW1 := Lib.hid hw1
  have HS : Hid (∀ W, Below w1.heap.size w1 W → Below w1.heap.size w1 W ∧ Pair2 W w.heap.size a b) := Lib.hid fun W hW => ⟨hW, HP W hW⟩
  unfold Pair2 at HS
  clear G hm hmb hz ha hb HP hw1
  have s0 := HS.out w1 (Below.refl _ _)
  obtain ⟨-, ⟨a0, a1, a2⟩, ⟨b0, b1, b2⟩⟩ := s0
  all_goals
   go_enter Try.func5, Try.ntmps5
   go_wp2_with fail
   rw [HW1.out]
   go_region_held3 (fun W => Below w1.heap.size w1 W ∧ (W.cell? ⟨w.heap.size, 0, none⟩ = some (.int .u64 (a.h : Nat)) ∧ W.cell? ⟨w.heap.size, 1, none⟩ = some (.int .i64 a.v) ∧ W.cell? ⟨w.heap.size, 2, none⟩ = some (.int .i64 a.p)) ∧
       (W.cell? ⟨w.heap.size + 1, 0, none⟩ = some (.int .u64 (b.h : Nat)) ∧ W.cell? ⟨w.heap.size + 1, 1, none⟩ = some (.int .i64 b.v) ∧ W.cell? ⟨w.heap.size + 1, 2, none⟩ = some (.int .i64 b.p)))
     (first | (with_reducible assumption) | ((with_reducible refine HS.out _ ?_); (repeat' (first | (with_reducible assumption) | (with_reducible exact Below.refl _ _) | (with_reducible refine Below.drew ?_))); done) | fail)
     (first
     | (go_at_call 12; ((with_reducible refine (HPA.out _).mono ?_); rintro e w' ⟨rfl, hb⟩; have hB2 := hold_go hb (by with_reducible assumption)))
     | (go_at_call 12; ((with_reducible refine (HPB.out _).mono ?_); rintro e w' ⟨rfl, hb⟩; have hB3 := hold_go hb (by with_reducible assumption)))
     | fail)
   all_goals
     have HQ := Lib.hid (bj hbw hB3)
     have HZ := Lib.hid fun W hW => HS.out W (bj hB3 hW)
     clear hbw a0 a1 a2 b0 b1 b2
     go_wp2_with fail
     refine (HG.out _).mono ?_
     rintro e w4 ⟨rfl, hb4⟩
     have hb5 := bj HQ.out hb4
     have hb6 : Below w.heap.size w (w4.alloc (.cells #[.int .u64 (a.h : Nat), .int .i64 a.v, .int .i64 a.p] 24)) := hb5.alloc hb5.size _
     obtain ⟨-, ⟨a0, a1, a2⟩, ⟨b0, b1, b2⟩⟩ := HZ.out (w4.alloc (.cells #[.int .u64 (a.h : Nat), .int .i64 a.v, .int .i64 a.p] 24)) (hb4.alloc hb4.size _)
     have HZ2 := Lib.hid fun W (h : Below (w4.alloc (.cells #[.int .u64 (a.h : Nat), .int .i64 a.v, .int .i64 a.p] 24)).heap.size (w4.alloc (.cells #[.int .u64 (a.h : Nat), .int .i64 a.v, .int .i64 a.p] 24)) W) => HZ.out W (bj (hb4.alloc hb4.size _) h)
     clear hB2 hB3 hb4 HQ HZ hb5
     clear hb
     go_wp2_with fail
     refine (HL.out _).mono ?_
     rintro e w6 ⟨rfl, hb7⟩
     clear a0 a1 a2 b0 b1 b2
     obtain ⟨-, ⟨a0, a1, a2⟩, ⟨b0, b1, b2⟩⟩ := HZ2.out w6 hb7
     have hb8 := bj hb6 hb7
     clear HZ2 hb6 hb7
     go_wp2_with fail
     refine (entered_true _).mono ?_
     rintro e w7 ⟨rfl, hb9⟩
     go_wp2
     go_ret
     exact ⟨rfl, bj hb8 hb9⟩
theorem walk (W : World) (a b : EntS) (wa : EntOk a) (wb : EntOk b) :
    Calls Try.prog 5 #[entB a, entB b] W fun e w' => e = .returned (.bool true) ∧ Below W.heap.size W w' := by
  cases ha : mayE a with
  | false => exact no a b W wa wb ha
  | true =>
    cases hb : mayE b with
    | false => exact half a b W wa wb ha hb
    | true => exact yes a b W wa wb ha hb
end Go.Proofs.Ytjbhahcogdpkpaa.EnBack

/- The chapter's examples of layer 8, over what the program's records answer. -/
import Derived.Test.YtabalpcgnkjelaaRecApi
namespace Go.Proofs.Ytabalpcgnkjelaa
open Go.RowKit
set_option linter.unusedVariables false

def abR : ByteArray := ⟨#[0, 0, 0, 2, 97, 98, 95, 47, 28, 109, 0, 0, 0, 2]⟩
theorem ab_rec : recS ⟨#[97, 98]⟩ = abR := by kernel_rfl
theorem ab_put : prS ⟨#[97, 98]⟩ = abR ∧ prE ⟨#[97, 98]⟩ = 0 := by
  constructor
  · unfold prS; rw [if_neg (by decide)]; exact ab_rec
  · unfold prE; rw [if_neg (by decide)]
theorem ab_get0 : getOk abR 0 = true ∧ getP abR 0 = ⟨#[97, 98]⟩ ∧ getN abR 0 = 14 := ⟨by kernel_rfl, by kernel_rfl, by kernel_rfl⟩
theorem ab_get1 : getOk abR 1 = false ∧ getP abR 1 = ByteArray.empty ∧ getN abR 1 = 0 := ⟨by kernel_rfl, by kernel_rfl, by kernel_rfl⟩
theorem ab_back14 : bkOk abR 14 = true ∧ bkP abR 14 = ⟨#[97, 98]⟩ ∧ bkA abR 14 = 0 := ⟨by kernel_rfl, by kernel_rfl, by kernel_rfl⟩
theorem ab_back13 : bkOk abR 13 = false ∧ bkP abR 13 = ByteArray.empty ∧ bkA abR 13 = 0 := ⟨by kernel_rfl, by kernel_rfl, by kernel_rfl⟩
theorem ab_whole : wlL (abR ++ abR) 0 = [0, 14] ∧ wlE (abR ++ abR) 0 = 28 := ⟨by kernel_rfl, by kernel_rfl⟩
theorem ab_torn : wlL ((abR ++ abR).extract 0 27) 0 = [0] ∧ wlE ((abR ++ abR).extract 0 27) 0 = 14 := ⟨by kernel_rfl, by kernel_rfl⟩

theorem ints_two (w : World) (x y : Int) : IntsIn (w.alloc (.cells #[.int .i64 x, .int .i64 y] 3)) (.slice (some ⟨w.heap.size, 0, none⟩) 2 2) [x, y] := by
  refine Or.inr ⟨w.heap.size, 0, 2, rfl, Nat.le_refl _, by unfold maxLen; omega, by simp, fun i z h => ?_⟩
  match i, h with
  | 0, h => simp at h; subst h; simp
  | 1, h => simp at h; subst h; simp
theorem ints_one (w : World) (x : Int) : IntsIn (w.alloc (.cells #[.int .i64 x] 3)) (.slice (some ⟨w.heap.size, 0, none⟩) 1 1) [x] := by
  refine Or.inr ⟨w.heap.size, 0, 1, rfl, Nat.le_refl _, by unfold maxLen; omega, by simp, fun i z h => ?_⟩
  match i, h with
  | 0, h => simp at h; subst h; simp

set_option maxHeartbeats 1000000 in
set_option maxRecDepth 100000 in
theorem recorded_true (api : RecApi) (w : World) : Calls Try.prog 10 #[] w fun e w' => e = .returned (.bool true) ∧ Below w.heap.size w w' := by
  have P0 := fun W => api.put ⟨#[97, 98]⟩ W (by decide)
  rw [ab_put.1, ab_put.2] at P0
  have G0 := fun W => api.get abR 0 W (by decide) (by decide)
  unfold GotRec at G0
  rw [ab_get0.1, ab_get0.2.1, ab_get0.2.2] at G0
  have G1 := fun W => api.get abR 1 W (by decide) (by decide)
  unfold GotRec at G1
  rw [ab_get1.1, ab_get1.2.1, ab_get1.2.2] at G1
  have B0 := fun W => api.back abR 14 W (by decide) (by decide)
  unfold BackRec at B0
  rw [ab_back14.1, ab_back14.2.1, ab_back14.2.2] at B0
  have B1 := fun W => api.back abR 13 W (by decide) (by decide)
  unfold BackRec at B1
  rw [ab_back13.1, ab_back13.2.1, ab_back13.2.2] at B1
  have W0 := fun W => api.whole (abR ++ abR) 0 W (by rw [ByteArray.size_append]; decide) (by decide)
  unfold WholeRec at W0
  rw [ab_whole.1, ab_whole.2] at W0
  have W1 := fun W => api.whole ((abR ++ abR).extract 0 27) 0 W (by rw [ByteArray.size_extract, ByteArray.size_append]; decide) (by decide)
  unfold WholeRec at W1
  rw [ab_torn.1, ab_torn.2] at W1
  have hz : abR.size = 14 := by decide
  have hz2 : (abR ++ abR).size = 28 := by rw [ByteArray.size_append]; decide
  have hx1 : abR.extract 0 6 = ⟨#[0, 0, 0, 2, 97, 98]⟩ := by kernel_rfl
  have hx2 : abR.extract 10 14 = ⟨#[0, 0, 0, 2]⟩ := by kernel_rfl
  have ha : ∀ w : World, (Op.stringOp .add abR abR).run Try.prog w = .ok (.string (abR ++ abR)) w := fun w => run_string_add_sum (P := Try.prog) (w := w) _ _ (by omega)
  generalize abR ++ abR = D at *
  generalize abR = R at *
  have HP0 := Lib.hid P0
  have HG0 := Lib.hid G0
  have HG1 := Lib.hid G1
  have HB0 := Lib.hid B0
  have HB1 := Lib.hid B1
  have HW0 := Lib.hid W0
  have HW1 := Lib.hid W1
  clear P0 G0 G1 B0 B1 W0 W1
  go_enter Try.func10, Try.ntmps10
  go_wp2_with fail
  refine (HP0.out _).mono ?_
  rintro e w1 ⟨rfl, hb1⟩
  go_wp2_with fail
  refine (HG0.out _).mono ?_
  rintro e w2 ⟨rfl, hb2⟩
  go_wp2_with fail
  refine (HG1.out _).mono ?_
  rintro e w3 ⟨rfl, hb3⟩
  go_wp2_with fail
  refine (HB0.out _).mono ?_
  rintro e w4 ⟨rfl, hb4⟩
  go_wp2_with fail
  refine (HB1.out _).mono ?_
  rintro e w5 ⟨rfl, hb5⟩
  have b15 := bj hb1 (bj hb2 (bj hb3 (bj hb4 hb5)))
  clear hb1 hb2 hb3 hb4 hb5
  go_wp2_with fail
  refine (HW0.out _).mono ?_
  rintro e w6 ⟨u1, rfl, i1, hb6⟩
  obtain ⟨A1, c1, rfl⟩ := i1.form
  have I1 := Lib.hid i1
  clear i1
  go_wp2_with fail
  refine (HW1.out _).mono ?_
  rintro e w7 ⟨u2, rfl, i2, hb7⟩
  obtain ⟨A2, c2, rfl⟩ := i2.form
  have I2 := Lib.hid i2
  clear i2
  have b17 := bj b15 (bj hb6 hb7)
  go_wp2_with fail
  have hi := ints_any _ _ _ _ _ ((I1.out.below hb7 (Nat.le_refl _)).below ((Below.refl w7.heap.size w7).alloc (Nat.le_refl _) _) (Nat.le_refl _)) (ints_two w7 0 14)
  rw [decide_eq_true rfl] at hi
  refine hi.mono ?_
  rintro e w8 ⟨rfl, n, rfl⟩
  clear hi
  have b18 := below_drewN (b17.alloc b17.size (.cells #[.int .i64 0, .int .i64 14] 3)) n
  have I3 := Lib.hid ((I2.out.below ((Below.refl w7.heap.size w7).alloc (Nat.le_refl _) (.cells #[.int .i64 0, .int .i64 14] 3)) (Nat.le_refl _)).below (below_drewN (Below.refl _ _) n) (Nat.le_refl _))
  generalize hW : (w7.alloc (.cells #[.int .i64 0, .int .i64 14] 3)).drewN n = w9 at *
  clear hW b17 b15 hb6 hb7 I1 I2
  go_wp2_with fail
  have hj := ints_any _ _ _ _ _ (I3.out.below ((Below.refl w9.heap.size w9).alloc (Nat.le_refl _) _) (Nat.le_refl _)) (ints_one w9 0)
  rw [decide_eq_true rfl] at hj
  refine hj.mono ?_
  rintro e w10 ⟨rfl, m, rfl⟩
  clear hj
  have b20 := below_drewN (b18.alloc b18.size (.cells #[.int .i64 0] 3)) m
  go_wp2
  go_ret
  exact ⟨rfl, b20⟩
end Go.Proofs.Ytabalpcgnkjelaa

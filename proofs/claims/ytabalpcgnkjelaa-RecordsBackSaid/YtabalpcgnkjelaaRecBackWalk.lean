/- The walk of RecordsBack, over what the program's records answer. -/
import Derived.Test.YtabalpcgnkjelaaRecorded
import Derived.Test.YtabalpcgnkjelaaRecStands
namespace Go.Proofs.Ytabalpcgnkjelaa
open Go.RowKit
set_option linter.unusedVariables false

theorem rback_long (api : RecApi) (p a b : ByteArray) (w : World) (hp : p.size ≤ maxLen) (ha : a.size ≤ maxLen) (hb : b.size ≤ maxLen) (h : 2500 < p.size ∨ 300 < a.size ∨ 300 < b.size) :
    Calls Try.prog 6 #[.string p, .string a, .string b] w fun e w' => e = .returned (.bool true) ∧ Below w.heap.size w w' := by
  have HR := Lib.hid (recorded_true api)
  unfold maxLen at hp ha hb
  by_cases h1 : 2500 < p.size
  · go_enter Try.func6, Try.ntmps6
    go_wp2_with fail
    refine (HR.out _).mono ?_
    rintro e w1 ⟨rfl, hb1⟩
    go_wp2
    go_ret
    exact ⟨rfl, hb1⟩
  · by_cases h2 : 300 < a.size
    · go_enter Try.func6, Try.ntmps6
      go_wp2_with fail
      refine (HR.out _).mono ?_
      rintro e w1 ⟨rfl, hb1⟩
      go_wp2
      go_ret
      exact ⟨rfl, hb1⟩
    · have h3 : 300 < b.size := by omega
      go_enter Try.func6, Try.ntmps6
      go_wp2_with fail
      refine (HR.out _).mono ?_
      rintro e w1 ⟨rfl, hb1⟩
      go_wp2
      go_ret
      exact ⟨rfl, hb1⟩

theorem rback_wrong (api : RecApi) (p a b : ByteArray) (w : World) (hp : p.size ≤ 2500) (ha : a.size ≤ 300) (hb : b.size ≤ 300) (h : 2000 < p.size) :
    Calls Try.prog 6 #[.string p, .string a, .string b] w fun e w' => e = .returned (.bool true) ∧ Below w.heap.size w w' := by
  have HR := Lib.hid (recorded_true api)
  have P := fun W => api.put p W (by unfold maxLen; omega)
  unfold prS prE at P
  rw [if_pos h, if_pos h] at P
  have HP := Lib.hid P
  clear P
  go_enter Try.func6, Try.ntmps6
  go_wp2_with fail
  refine (HP.out _).mono ?_
  rintro e w1 ⟨rfl, hb1⟩
  go_wp2_with fail
  refine (HR.out _).mono ?_
  rintro e w2 ⟨rfl, hb2⟩
  go_wp2
  go_ret
  exact ⟨rfl, bj hb1 hb2⟩

set_option maxHeartbeats 1000000 in
set_option maxRecDepth 100000 in
theorem rback_right (api : RecApi) (p a b : ByteArray) (w : World) (hp : p.size ≤ 2000) (ha : a.size ≤ 300) (hb : b.size ≤ 300) :
    Calls Try.prog 6 #[.string p, .string a, .string b] w fun e w' => e = .returned (.bool true) ∧ Below w.heap.size w w' := by
  have HR := Lib.hid (recorded_true api)
  have P := fun W => api.put p W (by unfold maxLen; omega)
  unfold prS prE at P
  rw [if_neg (by omega), if_neg (by omega)] at P
  have HP := Lib.hid P
  clear P
  have hT := recS_size p
  have hz : (a ++ recS p ++ b).size = a.size + (p.size + 12) + b.size := by rw [ByteArray.size_append, ByteArray.size_append, recS_size]
  obtain ⟨g1, g2, g3⟩ := rec_stands a p b hp
  obtain ⟨k1, k2, k3⟩ := rec_back a p b hp
  have G := fun W => api.get (a ++ recS p ++ b) (a.size : Nat) W (by omega) (WalkArith.wf_i64 (by omega))
  unfold GotRec at G
  rw [getOk_nat, g1, g2, g3] at G
  have B := fun W => api.back (a ++ recS p ++ b) ((a.size + (p.size + 12) : Nat) : Int) W (by omega) (WalkArith.wf_i64 (by omega))
  unfold BackRec at B
  rw [k1, k2, k3, show ((a.size + (p.size + 12) : Nat) : Int) = (a.size : Int) + ((recS p).size : Int) by omega] at B
  rw [show ((a.size + (p.size + 12) : Nat) : Int) = (a.size : Int) + ((recS p).size : Int) by omega] at G
  have HG := Lib.hid G
  have HB := Lib.hid B
  have a1 : ∀ w : World, (Op.stringOp .add a (recS p)).run Try.prog w = .ok (.string (a ++ recS p)) w := fun w => run_string_add_sum (P := Try.prog) (w := w) _ _ (by omega)
  have a2 : ∀ w : World, (Op.stringOp .add (a ++ recS p) b).run Try.prog w = .ok (.string (a ++ recS p ++ b)) w := fun w => run_string_add_sum (P := Try.prog) (w := w) _ _ (by rw [ByteArray.size_append]; omega)
  have e1 : (((recS p).size : Int) == (p.size : Int) + 12) = true := by rw [hT]; simp
  have e2 : (((a.size : Int) + ((recS p).size : Int)) == ((a.size : Int) + ((recS p).size : Int))) = true := by simp
  have e3 : (p.toList == p.toList) = true := by simp
  have e4 : ((a.size : Int) == (a.size : Int)) = true := by simp
  have hT2 : (recS p).size ≤ 2012 := by omega
  generalize a ++ recS p ++ b = S at *
  generalize a ++ recS p = A at *
  generalize recS p = R at *
  clear G B g1 g2 g3 k1 k2 k3 hz hT
  go_enter Try.func6, Try.ntmps6
  go_wp2_with fail
  refine (HP.out _).mono ?_
  rintro e w1 ⟨rfl, hb1⟩
  go_wp2_with fail
  refine (HG.out _).mono ?_
  rintro e w2 ⟨rfl, hb2⟩
  go_wp2_with fail
  refine (HB.out _).mono ?_
  rintro e w3 ⟨rfl, hb3⟩
  go_wp2_with fail
  refine (HR.out _).mono ?_
  rintro e w4 ⟨rfl, hb4⟩
  go_wp2
  go_ret
  exact ⟨rfl, bj hb1 (bj hb2 (bj hb3 hb4))⟩

theorem rback_walk (api : RecApi) (p a b : ByteArray) (hp : p.size ≤ maxLen) (ha : a.size ≤ maxLen) (hb : b.size ≤ maxLen) (w : World) :
    Calls Try.prog 6 #[.string p, .string a, .string b] w fun e w' => e = .returned (.bool true) ∧ Below w.heap.size w w' := by
  by_cases h : 2500 < p.size ∨ 300 < a.size ∨ 300 < b.size
  · exact rback_long api p a b w hp ha hb h
  · by_cases h2 : 2000 < p.size
    · exact rback_wrong api p a b w (by omega) (by omega) (by omega) h2
    · exact rback_right api p a b w (by omega) (by omega) (by omega)
end Go.Proofs.Ytabalpcgnkjelaa

/- The document's Put of a filter. -/
import Derived.Test.YtfnppmiapjhjlaaPgHeadRef
namespace Go.Proofs.Ytfnppmiapjhjlaa
open Go.RowKit
set_option linter.unusedVariables false

theorem pputr_no (a : ByteArray) (p : Int) (w : World) (h : pgOk a.size p = false) :
    Calls Try.prog 11 #[.string a, .int .i64 p] w fun e w' => e = .returned (.string (putP a p)) ∧ Below w.heap.size w w' := by
  rw [putP_no h]
  have H1 := Lib.hid fun W => pmay_ref a.size p W
  rw [h] at H1
  go_enter Try.func11, Try.ntmps11
  go_wp2_with fail
  refine (H1.out _).mono ?_
  rintro e w1 ⟨rfl, rfl⟩
  go_wp2
  go_ret
  exact ⟨rfl, Below.refl _ _⟩

set_option maxHeartbeats 1000000 in
theorem pputr_yes (a : ByteArray) (p m : Nat) (w : World) (h : pgOk a.size p = true) (hm : a.size = 60 * m) (hm2 : m ≤ 2000) (hp : p ≤ 16) :
    Calls Try.prog 11 #[.string a, .int .i64 (p : Nat)] w fun e w' => e = .returned (.string (hdP a.size p ++ pgs a m)) ∧ Below w.heap.size w w' := by
  have H1 := Lib.hid fun W => pmay_ref a.size p W
  rw [h] at H1
  have H2 := Lib.hid fun W => headr_any a.size p W (by omega) (by omega)
  have HZ := hdP_size a.size p
  have hz : ∀ k, k ≤ m → (pgs a k).size = 64 * k := fun k hk => pgs_size a k (by omega)
  have H3 := Lib.hid fun (k : Nat) (W : World) (hk : k < m) => seal_ref (a.extract (60 * k) (60 * k + 60)) W (by rw [ByteArray.size_extract]; unfold maxLen; omega)
  have hs : ∀ k, k < m → (sealS (a.extract (60 * k) (60 * k + 60))).size = 64 := fun k hk => by rw [seal_size, ByteArray.size_extract]; omega
  have hpg := Lib.hid (pgs_succ a)
  have hp0 : pgs a 0 = ByteArray.empty := rfl
  generalize hdP a.size p = HD at *
  have HM := Lib.hid hm
  clear hm h
  go_enter Try.func11, Try.ntmps11
  go_wp2_with fail
  refine (H1.out _).mono ?_
  rintro e w1 ⟨rfl, rfl⟩
  go_wp2_with fail
  refine (H2.out _).mono ?_
  rintro e w1 ⟨rfl, b1⟩
  have hl : ((a.size : Nat) : Int) ≤ 120000 := by have := HM.out; omega
  go_wp2_with fail
  go_loopw [5, 6] (fun s v wr => ∃ k : Nat, k ≤ m ∧ v = .int .i64 ((60 * k : Nat) : Int) ∧ s = .string (HD ++ pgs a k) ∧ Below w.heap.size w wr) (fun _ v _ => 60 * m + 1 - (intOf v).toNat)
  case atStart => exact ⟨0, Nat.zero_le _, rfl, by rw [hp0, ByteArray.append_empty], b1⟩
  case round =>
    clear hp0 b1
    obtain ⟨k, hk, rfl, rfl, hb⟩ := hrel
    obtain ⟨y, hy⟩ : ∃ y, 60 * k = y := ⟨_, rfl⟩
    by_cases hlt : k < m
    · have H3k := Lib.hid fun W => H3.out k W hlt
      have hsk := hs k hlt
      have hp1 := hpg.out k
      have hzk := hz k hk
      rw [hy] at H3k hsk hp1
      have A1 : ∀ W : World, (Op.stringOp .add (HD ++ pgs a k) (sealS (a.extract y (y + 60)))).run Try.prog W = .ok (.string (HD ++ pgs a k ++ sealS (a.extract y (y + 60)))) W := fun W => run_string_add_sum (P := Try.prog) (w := W) _ _ (by rw [ByteArray.size_append, HZ, hzk, hsk]; omega)
      have e2 : HD ++ pgs a k ++ sealS (a.extract y (y + 60)) = HD ++ pgs a (k + 1) := by rw [hp1, ByteArray.append_assoc]
      rw [e2] at A1
      clear e2 hp1 hzk hsk
      generalize sealS (a.extract y (y + 60)) = SP at *
      obtain ⟨PN, hPN⟩ : ∃ PN, HD ++ pgs a (k + 1) = PN := ⟨_, rfl⟩
      rw [hPN] at A1
      have HPN := Lib.hid hPN
      clear hPN
      generalize HD ++ pgs a k = PK at *
      have s1 : (y : Int) < (a.size : Int) := by have := HM.out; omega
      have s2 : (y : Int) + 60 ≤ (a.size : Int) := by have := HM.out; omega
      rw [hy]
      have HY := Lib.hid hy
      clear hy hs hz
      go_wp2_with fail
      refine (H3k.out _).mono ?_
      rintro e w3 ⟨rfl, b3⟩
      have HB := Lib.hid (bj hb b3)
      clear hb b3
      go_wp2
      go_roundw
      case rel => exact ⟨k + 1, hlt, by rw [show 60 * (k + 1) = y + 60 by have := HY.out; omega]; go_num, by rw [HPN.out], HB.out⟩
      case measure =>
        have := HY.out
        simp [intOf]
        omega
    · obtain rfl : k = m := by omega
      have s1 : (a.size : Int) ≤ (y : Int) := by have := HM.out; omega
      rw [hy]
      go_wp2
      go_ret
      exact ⟨rfl, hb⟩
theorem pputr_any (a : ByteArray) (p : Int) (w : World) :
    Calls Try.prog 11 #[.string a, .int .i64 p] w fun e w' => e = .returned (.string (putP a p)) ∧ Below w.heap.size w w' := by
  cases h : pgOk a.size p with
  | false => exact pputr_no a p w h
  | true =>
    obtain ⟨g1, g2, g3, g4, g5⟩ := pgOk_iff.1 h
    obtain ⟨q, rfl⟩ : ∃ q : Nat, p = q := ⟨p.toNat, by omega⟩
    rw [putP_yes h, Int.toNat_natCast]
    exact pputr_yes a q (a.size / 60) w h (by omega) (by omega) (by omega)
end Go.Proofs.Ytfnppmiapjhjlaa

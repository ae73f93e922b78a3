/- How many bytes a table has, and where an entry stands: the program's, the document's; the head of a table. -/
import Derived.Test.YtifhiiokgpbhmaaTbMath
import Derived.Test.YtifhiiokgpbhmaaNumsGet
import Derived.Test.YtifhiiokgpbhmaaPrefix
namespace Go.Proofs.Ytifhiiokgpbhmaa
open Go.RowKit
set_option linter.unusedVariables false

/-- Size, At (P18.2). -/
def tbSz (n : Int) : Int := if n < 0 ∨ 89478484 < n then 0 else 12 + 24 * n
def tbAt (n : Int) : Int := if n < 0 ∨ 89478484 < n then 0 else 8 + 24 * n
theorem tbSz_no {n : Int} (h : n < 0 ∨ 89478484 < n) : tbSz n = 0 ∧ tbAt n = 0 := by unfold tbSz tbAt; rw [if_pos h, if_pos h]; exact ⟨rfl, rfl⟩
theorem tbSz_yes {n : Int} (h : ¬ (n < 0 ∨ 89478484 < n)) : tbSz n = 12 + 24 * n ∧ tbAt n = 8 + 24 * n := by unfold tbSz tbAt; rw [if_neg h, if_neg h]; exact ⟨rfl, rfl⟩
theorem tbSz_nat {n : Nat} (h : n ≤ 89478484) : tbSz (n : Nat) = ((12 + 24 * n : Nat) : Int) ∧ tbAt (n : Nat) = ((8 + 24 * n : Nat) : Int) := by
  obtain ⟨h1, h2⟩ := tbSz_yes (n := (n : Nat)) (by omega)
  rw [h1, h2]
  exact ⟨by omega, by omega⟩

theorem tsize_any (n : Int) (w : World) :
    Calls Try.prog 13 #[.int .i64 n] w fun e w' => e = .returned (.int .i64 (tbSz n)) ∧ w = w' := by
  by_cases h : n < 0
  · rw [(tbSz_no (Or.inl h)).1]
    go_enter Try.func13, Try.ntmps13
    go_wp2
    go_ret
    exact ⟨rfl, rfl⟩
  · by_cases h2 : 89478484 < n
    · rw [(tbSz_no (Or.inr h2)).1]
      go_enter Try.func13, Try.ntmps13
      go_wp2
      go_ret
      exact ⟨rfl, rfl⟩
    · rw [(tbSz_yes (n := n) (by omega)).1]
      obtain ⟨k, rfl⟩ : ∃ k : Nat, n = k := ⟨n.toNat, by omega⟩
      go_enter Try.func13, Try.ntmps13
      go_wp2
      go_ret
      exact ⟨ret_int (by omega), rfl⟩
theorem tsizer_any (n : Int) (w : World) :
    Calls Try.prog 11 #[.int .i64 n] w fun e w' => e = .returned (.int .i64 (tbSz n)) ∧ w = w' := by
  by_cases h : n < 0
  · rw [(tbSz_no (Or.inl h)).1]
    go_enter Try.func11, Try.ntmps11
    go_wp2
    go_ret
    exact ⟨rfl, rfl⟩
  · by_cases h2 : 89478484 < n
    · rw [(tbSz_no (Or.inr h2)).1]
      go_enter Try.func11, Try.ntmps11
      go_wp2
      go_ret
      exact ⟨rfl, rfl⟩
    · rw [(tbSz_yes (n := n) (by omega)).1]
      obtain ⟨k, rfl⟩ : ∃ k : Nat, n = k := ⟨n.toNat, by omega⟩
      go_enter Try.func11, Try.ntmps11
      go_wp2
      go_ret
      exact ⟨ret_int (by omega), rfl⟩
theorem tat_any (n : Int) (w : World) :
    Calls Try.prog 14 #[.int .i64 n] w fun e w' => e = .returned (.int .i64 (tbAt n)) ∧ w = w' := by
  have HS := Lib.hid (tsize_any n w)
  by_cases h : n < 0 ∨ 89478484 < n
  · obtain ⟨h1, h2⟩ := tbSz_no h
    rw [h1] at HS
    rw [h2]
    clear h h1 h2
    go_enter Try.func14, Try.ntmps14
    go_wp2_with fail
    refine HS.out.mono ?_
    rintro e w' ⟨rfl, rfl⟩
    go_wp2
    go_ret
    exact ⟨rfl, rfl⟩
  · obtain ⟨h1, h2⟩ := tbSz_yes h
    obtain ⟨k, rfl⟩ : ∃ k : Nat, n = k := ⟨n.toNat, by omega⟩
    obtain ⟨z, hz⟩ : ∃ z : Nat, z = 12 + 24 * k := ⟨_, rfl⟩
    rw [h1, show (12 : Int) + 24 * (k : Nat) = (z : Nat) by omega] at HS
    rw [h2]
    have t1 : ((z : Int) == 0) = false := beq_eq_false_iff_ne.2 (by omega)
    have hk : k ≤ 89478484 := by omega
    clear h h1 h2 hz
    go_enter Try.func14, Try.ntmps14
    go_wp2_with fail
    refine HS.out.mono ?_
    rintro e w' ⟨rfl, rfl⟩
    go_wp2
    go_ret
    exact ⟨ret_int (by omega), rfl⟩

/-- There is a head. -/
def tbHas (s : ByteArray) : Bool := decide (8 ≤ s.size ∧ s.extract 0 4 = bs ptabL)
def tbMany (s : ByteArray) : Int := if tbHas s = true then (tbN s : Nat) else 0
theorem tb_letters : (⟨#[112, 116, 97, 98]⟩ : ByteArray) = bs ptabL := rfl
theorem pre_four (s : ByteArray) (h8 : 8 ≤ s.size) : preS s ⟨#[112, 116, 97, 98]⟩ = tbHas s := by
  unfold preS tbHas
  rw [tb_letters, decide_eq_decide]
  have : (bs ptabL).size = 4 := rfl
  rw [this]
  exact ⟨fun h => ⟨h8, h.2⟩, fun h => ⟨by omega, h.2⟩⟩
theorem tcount_any (s : ByteArray) (w : World) (hs : s.size ≤ maxLen) :
    Calls Try.prog 26 #[.string s] w fun e w' => e = .returned (.tuple #[.int .i64 (tbMany s), .bool (tbHas s)]) ∧ w = w' := by
  by_cases h8 : s.size < 8
  · have e0 : tbHas s = false := decide_eq_false (fun h => by omega)
    have e1 : tbMany s = 0 := by unfold tbMany; rw [e0]; rfl
    rw [e0, e1]
    have t1 : decide ((s.size : Int) < 8) = true := decide_eq_true (by omega)
    clear e0 e1
    unfold maxLen at hs
    go_enter Try.func26, Try.ntmps26
    go_wp2
    go_ret2
    exact ⟨rfl, rfl⟩
  · have HP := fun W => pre_any s ⟨#[112, 116, 97, 98]⟩ W hs (by decide)
    rw [pre_four s (by omega)] at HP
    have HG := Lib.hid fun W => get_any (s.extract 4 8) W (by unfold maxLen at *; rw [ByteArray.size_extract]; omega)
    have hN : getS (s.extract 4 8) = tbN s := rfl
    have hlt : tbN s < 4294967296 := by
      have h := un_lt ((s.extract 4 8).data.toList.take 8)
      have p : (256 : Nat) ^ 4 = 4294967296 := by decide
      have hl : ((s.extract 4 8).data.toList.take 8).length ≤ 4 := by rw [List.length_take, sl_size, ByteArray.size_extract]; omega
      exact Nat.lt_of_lt_of_le h (by rw [← p]; exact Nat.pow_le_pow_right (by decide) hl)
    unfold tbMany
    rw [hN] at HG
    clear hN
    have t1 : decide ((s.size : Int) < 8) = false := decide_eq_false (by omega)
    have t2 : (8 : Int) ≤ (s.size : Int) := by omega
    have t3 : 8 ≤ s.size := by omega
    generalize tbN s = n at *
    unfold maxLen at hs
    have HP2 := Lib.hid HP
    clear HP h8
    cases e : tbHas s
    all_goals
      rw [e] at HP2
      clear e
      go_enter Try.func26, Try.ntmps26
      go_wp2_with fail
      refine (HP2.out _).mono ?_
      rintro e w1 ⟨rfl, rfl⟩
      first
      | (go_wp2
         go_ret2
         exact ⟨rfl, rfl⟩)
      | (go_wp2_with fail
         refine (HG.out _).mono ?_
         rintro e w1 ⟨rfl, rfl⟩
         go_wp2
         go_ret2
         exact ⟨rfl, rfl⟩)
end Go.Proofs.Ytifhiiokgpbhmaa

/- The walk of annalistlaw03.HashesSeed. -/
import Derived.Test.YtlhoomdmjkabfaaHashEx
namespace Go.Proofs.Ytlhoomdmjkabfaa.hashesSeedW
open Go.RowKit
set_option linter.unusedVariables false

theorem other (x y : Nat) (s : ByteArray) (hs : s.size ≤ maxLen) (h : 500 < s.size ∨ x = 0 ∨ y = 0 ∨ x = y) (w : World) :
    Calls Try.prog 5 #[.int .u64 (x : Nat), .int .u64 (y : Nat), .string s] w fun e w' => e = .returned (.bool true) ∧ Below w.heap.size w w' := by
  unfold maxLen at hs
  have go : ∀ (b1 b2 b3 : Bool), ((x : Int) == 0) = b1 → ((y : Int) == 0) = b2 → ((x : Int) == (y : Int)) = b3 → (500 < s.size ∨ b1 = true ∨ b2 = true ∨ b3 = true) →
      Calls Try.prog 5 #[.int .u64 (x : Nat), .int .u64 (y : Nat), .string s] w fun e w' => e = .returned (.bool true) ∧ Below w.heap.size w w' := by
    intro b1 b2 b3 e1 e2 e3 hb
    by_cases h1 : 500 < s.size
    · go_enter Try.func5, Try.ntmps5
      go_wp2_with fail
      refine (hashed_true _).mono ?_
      rintro e w' ⟨rfl, rfl⟩
      go_wp2
      go_ret
      exact ⟨rfl, Below.refl _ _⟩
    · cases b1 <;> cases b2 <;> cases b3
      all_goals try (exfalso; simp at hb; omega)
      all_goals
        go_enter Try.func5, Try.ntmps5
        go_wp2_with fail
        refine (hashed_true _).mono ?_
        rintro e w' ⟨rfl, rfl⟩
        go_wp2
        go_ret
        exact ⟨rfl, Below.refl _ _⟩
  refine go _ _ _ rfl rfl rfl ?_
  rcases h with h | h | h | h
  · exact Or.inl h
  · exact Or.inr (Or.inl (by rw [h]; rfl))
  · exact Or.inr (Or.inr (Or.inl (by rw [h]; rfl)))
  · exact Or.inr (Or.inr (Or.inr (by rw [h]; exact beq_self_eq_true _)))

set_option maxHeartbeats 400000 in
theorem short (x y : Nat) (s : ByteArray) (hx : x < 18446744073709551616) (hy : y < 18446744073709551616) (x0 : x ≠ 0) (y0 : y ≠ 0) (hne : x ≠ y) (hs : s.size ≤ 500) (w : World) :
    Calls Try.prog 5 #[.int .u64 (x : Nat), .int .u64 (y : Nat), .string s] w fun e w' => e = .returned (.bool true) ∧ Below w.heap.size w w' := by
  have h1 := Lib.hid (fun w => hash_any x s w hx (by unfold maxLen; omega))
  have h2 := Lib.hid (fun w => hash_any y s w hy (by unfold maxLen; omega))
  have hd := hashH_seed hx hy x0 y0 hne s.data.toList
  generalize hashH x s.data.toList = a at *
  generalize hashH y s.data.toList = b at *
  have e1 : ((x : Int) == 0) = false := by simp; omega
  have e2 : ((y : Int) == 0) = false := by simp; omega
  have e3 : ((x : Int) == (y : Int)) = false := by simp; omega
  have e4 : ((a : Int) != (b : Int)) = true := by simp; omega
  go_enter Try.func5, Try.ntmps5
  go_wp2_with fail
  refine (h1.out _).mono ?_
  rintro e w' ⟨rfl, rfl⟩
  go_wp2_with fail
  refine (h2.out _).mono ?_
  rintro e w' ⟨rfl, rfl⟩
  go_wp2_with fail
  refine (hashed_true _).mono ?_
  rintro e w' ⟨rfl, rfl⟩
  go_wp2
  go_ret
  exact ⟨rfl, Below.refl _ _⟩

theorem walk (a0 a1 : Int) (a2 : ByteArray) (w0 : (Lit.int .u64 a0).wf = true) (w1 : (Lit.int .u64 a1).wf = true) (w2 : a2.size ≤ maxLen) (w : World) :
    Calls Try.prog 5 #[.int .u64 a0, .int .u64 a1, .string a2] w fun e w' => e = .returned (.bool true) ∧ Below w.heap.size w w' := by
  obtain ⟨x, rfl, hx⟩ := u64_nat w0
  obtain ⟨y, rfl, hy⟩ := u64_nat w1
  by_cases h : 500 < a2.size ∨ x = 0 ∨ y = 0 ∨ x = y
  · exact other x y a2 w2 h w
  · exact short x y a2 hx hy (by omega) (by omega) (by omega) (by omega) w
end Go.Proofs.Ytlhoomdmjkabfaa.hashesSeedW

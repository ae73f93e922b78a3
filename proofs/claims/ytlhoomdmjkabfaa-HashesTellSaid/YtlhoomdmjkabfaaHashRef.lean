/- Hash and Step: the document's. -/
import Derived.Test.YtlhoomdmjkabfaaHash
namespace Go.Proofs.Ytlhoomdmjkabfaa
open Go.RowKit
set_option linter.unusedVariables false

theorem step_ref_walk (x : Nat) (hx : x < 18446744073709551616) : (x : Int) / 131072 + (x : Int) % 131072 * 140737488355328 = ((rotH x : Nat) : Int) := by unfold rotH; omega

theorem step_ref_wrap (x : Nat) (hx : x < 18446744073709551616) : IntKind.u64.wrap (IntKind.u64.wrap ((x : Int) / 131072 + (x : Int) % 131072 * 140737488355328 + 1) - ((x : Int) / 131072 + (x : Int) % 131072 * 140737488355328) % 2) = ((stepH x : Nat) : Int) := by
  have hr := rotH_lt hx
  rw [step_ref_walk x hx, IntKind.wrap_u64, IntKind.wrap_u64]
  unfold stepH
  generalize rotH x = r at *
  omega

theorem step_ref (x : Nat) (w : World) (hx : x < 18446744073709551616) :
    Calls Try.prog 11 #[.int .u64 (x : Nat)] w fun e w' => e = .returned (.int .u64 (stepH x : Nat)) ∧ w = w' := by
  go_enter Try.func11, Try.ntmps11
  go_wp2
  go_ret
  exact ⟨ret_u64 (step_ref_wrap x hx), rfl⟩

set_option maxHeartbeats 400000 in
theorem hash_ref (x : Nat) (s : ByteArray) (w : World) (hx : x < 18446744073709551616) (hs : s.size ≤ maxLen) :
    Calls Try.prog 9 #[.int .u64 (x : Nat), .string s] w fun e w' => e = .returned (.int .u64 (hashH x s.data.toList : Nat)) ∧ w = w' := by
  unfold maxLen at hs
  by_cases h0 : x = 0
  · subst h0
    go_enter Try.func9, Try.ntmps9
    go_wp2
    go_ret
    exact ⟨rfl, rfl⟩
  · have h0' : ((x : Int) == 0) = false := by simp; omega
    have hst0 := start_walk x hx
    have hlt0 := xlt startH_lt hx
    have hH : hashH x s.data.toList = mixH (foldH (startH ^^^ x) s.data.toList) := by unfold hashH; rw [if_neg h0]
    generalize startH ^^^ x = y0 at *
    have HH := Lib.hid hH
    clear hH
    go_enter Try.func9, Try.ntmps9
    go_wp2
    go_loop [5, 6] (fun a i => ∃ k : Nat, k ≤ s.size ∧ i = .int .i64 k ∧ a = .int .u64 (foldH y0 (s.data.toList.take k) : Nat)) (fun _ i => s.size - (intOf i).toNat)
    case atStart => exact ⟨0, by omega, rfl, val_u64 (by rw [List.take_zero, foldH_nil])⟩
    case round =>
      obtain ⟨k, hk, rfl, rfl⟩ := hrel
      have hy : foldH y0 (s.data.toList.take k) < 18446744073709551616 := foldH_lt _ hlt0
      by_cases hlt : k < s.size
      · have h1 := Lib.hid (take_snoc s k hlt)
        have h2 := Lib.hid (foldH_snoc y0 (s.data.toList.take k) s[k])
        have hc := (s[k]).toNat_lt
        generalize foldH y0 (s.data.toList.take k) = y at *
        go_wp2
        go_round
        case rel => exact ⟨k + 1, by omega, by go_num, val_u64 (by rw [h1.out, h2.out]; exact hst_walk y _ hy hc)⟩
        case measure => simp [intOf]; omega
      · obtain rfl : k = s.size := by omega
        have h1 : List.take s.size s.data.toList = s.data.toList := List.take_of_length_le (by simp)
        rw [h1] at hy ⊢
        clear h1
        generalize foldH y0 s.data.toList = y at *
        have e1 := mixA_walk y hy
        have e2 := mixH_walk y
        have e3 := mixA_lt y
        generalize mixA y = z at *
        go_wp2
        go_ret
        exact ⟨ret_u64 (by rw [HH.out]), rfl⟩
end Go.Proofs.Ytlhoomdmjkabfaa

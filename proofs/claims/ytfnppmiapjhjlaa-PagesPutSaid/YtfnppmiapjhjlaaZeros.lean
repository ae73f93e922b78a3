/- A text of so many zeros, as make and a conversion tell it. -/
import Derived.Test.YtfnppmiapjhjlaaBytes
import Derived.Test.YtfnppmiapjhjlaaNumsMath
namespace Go.Proofs.Ytfnppmiapjhjlaa
open Go.RowKit
set_option linter.unusedVariables false

theorem make_zeros (k : Nat) (hk : k ≤ 10000) : ∃ Z : Array Value, (∀ w : World, (Instr.makeSlice 36 (.int .i64 (k : Nat)) (.int .i64 (k : Nat))).run Try.prog w = .ok (.slice (some ⟨w.heap.size, 0, none⟩) k k) (w.alloc (.cells Z 5))) ∧
    ∀ w : World, (convert 36 9 (.slice (some ⟨w.heap.size, 0, none⟩) k k)).run Try.prog (w.alloc (.cells Z 5)) = .ok (.string (bs (List.replicate k 0))) (w.alloc (.cells Z 5)) := by
  refine ⟨madeCells #[.int .u8 0] k, run_make_row' (P := Try.prog) 36 5 (.int .u8 0) 1 Try.underlying36 (by kernel_rfl) rfl .i64 .i64 k (by omega) (by omega), fun w => ?_⟩
  have hrow := World.rowIs_made w (.int .u8 0) k 5
  have h := run_convert_bytes_back (P := Try.prog) (w.alloc (.cells (madeCells #[.int .u8 0] k) 5)) 36 9 5 ⟨w.heap.size, 0, none⟩ k (List.replicate k 0) Try.underlying36 Try.underlying5 Try.underlying9
    (fun j hj => by
      rw [List.length_replicate] at hj
      have e : (⟨w.heap.size, 0, none⟩ : Addr).add j = ⟨w.heap.size, j, none⟩ := by simp [Addr.add]; omega
      rw [List.getElem_replicate, e]
      exact hrow.cell hj)
  rw [List.length_replicate] at h
  exact h

/-- A text of zeros and what is answered of it, for any size of what is ahead. -/
def Zer (k : Nat) (p : ByteArray) (Z : Array Value) : Prop :=
  p.size = k ∧
  (∀ w : World, (Instr.makeSlice 36 (.int .i64 (k : Nat)) (.int .i64 (k : Nat))).run Try.prog w = .ok (.slice (some ⟨w.heap.size, 0, none⟩) k k) (w.alloc (.cells Z 5))) ∧
  ∀ w : World, (convert 36 9 (.slice (some ⟨w.heap.size, 0, none⟩) k k)).run Try.prog (w.alloc (.cells Z 5)) = .ok (.string p) (w.alloc (.cells Z 5))
theorem zer_any (k : Nat) (hk : k ≤ 10000) : ∃ p Z, Zer k p Z := by
  obtain ⟨Z, h1, h2⟩ := make_zeros k hk
  exact ⟨_, Z, by rw [bs_size, List.length_replicate], h1, h2⟩
end Go.Proofs.Ytfnppmiapjhjlaa

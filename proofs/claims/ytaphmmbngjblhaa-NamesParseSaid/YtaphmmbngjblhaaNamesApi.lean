/- What the program's names answer, as hypotheses; the chapter's examples over them. -/
import Derived.Test.YtaphmmbngjblhaaNamesRef
namespace Go.Proofs.Ytaphmmbngjblhaa
open Go.RowKit
set_option linter.unusedVariables false

structure NamesApi : Prop where
  stream : ∀ (s : ByteArray) (w : World), s.size ≤ maxLen → Calls Try.prog 12 #[.string s] w fun e w' => e = .returned (.bool (stS s)) ∧ Below w.heap.size w w'
  chunk : ∀ (n : Int) (w : World), (Lit.int .i64 n).wf = true → Calls Try.prog 8 #[.int .i64 n] w fun e w' => e = .returned (.string (nmS 99 n)) ∧ Below w.heap.size w w'
  table : ∀ (n : Int) (w : World), (Lit.int .i64 n).wf = true → Calls Try.prog 10 #[.int .i64 n] w fun e w' => e = .returned (.string (nmS 116 n)) ∧ Below w.heap.size w w'
  bloom : ∀ (n : Int) (w : World), (Lit.int .i64 n).wf = true → Calls Try.prog 11 #[.int .i64 n] w fun e w' => e = .returned (.string (nmS 98 n)) ∧ Below w.heap.size w w'
  parse : ∀ (s : ByteArray) (w : World), s.size ≤ maxLen → Calls Try.prog 14 #[.string s] w fun e w' => e = .returned (.tuple #[.int .u8 (npK s : Nat), .int .i64 (npN s : Nat), .bool (npOk s)]) ∧ Below w.heap.size w w'

theorem make_33 : ∃ Z : Array Value, (∀ w : World, (Instr.makeSlice 33 (.int .i64 33) (.int .i64 33)).run Try.prog w = .ok (.slice (some ⟨w.heap.size, 0, none⟩) 33 33) (w.alloc (.cells Z 5))) ∧
    ∀ w : World, (convert 33 9 (.slice (some ⟨w.heap.size, 0, none⟩) 33 33)).run Try.prog (w.alloc (.cells Z 5)) = .ok (.string (bs (List.replicate 33 0))) (w.alloc (.cells Z 5)) := by
  refine ⟨madeCells #[.int .u8 0] 33, run_make_row' (P := Try.prog) 33 5 (.int .u8 0) 1 Try.underlying33 (by kernel_rfl) rfl .i64 .i64 33 (by omega) (by omega), fun w => ?_⟩
  have hrow := World.rowIs_made w (.int .u8 0) 33 5
  have h := run_convert_bytes_back (P := Try.prog) (w.alloc (.cells (madeCells #[.int .u8 0] 33) 5)) 33 9 5 ⟨w.heap.size, 0, none⟩ 33 (List.replicate 33 0) Try.underlying33 Try.underlying5 Try.underlying9
    (fun j hj => by
      rw [List.length_replicate] at hj
      have e : (⟨w.heap.size, 0, none⟩ : Addr).add j = ⟨w.heap.size, j, none⟩ := by simp [Addr.add]; omega
      rw [List.getElem_replicate, e]
      exact hrow.cell hj)
  rw [List.length_replicate] at h
  exact h

theorem pex_1 : npK ⟨#[116, 48, 48, 48, 48, 49, 50]⟩ = 116 ∧ npN ⟨#[116, 48, 48, 48, 48, 49, 50]⟩ = 12 ∧ npOk ⟨#[116, 48, 48, 48, 48, 49, 50]⟩ = true := by decide
theorem pex_2 : npK ⟨#[116, 49, 50]⟩ = 0 ∧ npN ⟨#[116, 49, 50]⟩ = 0 ∧ npOk ⟨#[116, 49, 50]⟩ = false := by decide
theorem pex_3 : npK ⟨#[120, 48, 48, 48, 48, 49, 50]⟩ = 0 ∧ npN ⟨#[120, 48, 48, 48, 48, 49, 50]⟩ = 0 ∧ npOk ⟨#[120, 48, 48, 48, 48, 49, 50]⟩ = false := by decide
theorem pex_4 : npK ⟨#[99, 48, 48, 48, 48, 49, 97]⟩ = 0 ∧ npN ⟨#[99, 48, 48, 48, 48, 49, 97]⟩ = 0 ∧ npOk ⟨#[99, 48, 48, 48, 48, 49, 97]⟩ = false := by decide
theorem nex_1 : nmS 99 0 = ⟨#[99, 48, 48, 48, 48, 48, 48]⟩ := by kernel_rfl
theorem nex_2 : nmS 116 12 = ⟨#[116, 48, 48, 48, 48, 49, 50]⟩ := by kernel_rfl
theorem nex_3 : nmS 98 1000000 = ⟨#[]⟩ := by kernel_rfl
theorem nex_4 : nmS 98 (-1) = ⟨#[]⟩ := by kernel_rfl
end Go.Proofs.Ytaphmmbngjblhaa

/- The chapter's examples of layer 2, as the statements ask them. -/
import Derived.Test.YtmfdcenblpdhcaaSumsSeal
namespace Go.Proofs.Ytmfdcenblpdhcaa
open Go.RowKit
set_option linter.unusedVariables false

theorem ex_sum (s : ByteArray) (n : Nat) (hs : s.size ≤ 1000) (h : sumS s.data.toList = n) (w : World) :
    Calls Try.prog 9 #[.string s] w fun e w' => e = .returned (.int .u32 (n : Nat)) ∧ w = w' := h ▸ sum_any s w (by unfold maxLen; omega)
theorem ex_seal (s t : ByteArray) (hs : s.size ≤ 1000) (h : sealS s = t) (w : World) :
    Calls Try.prog 16 #[.string s] w fun e w' => e = .returned (.string t) ∧ Below w.heap.size w w' := h ▸ seal_any s w (by unfold maxLen; omega)
theorem ex_open (s a : ByteArray) (ok : Bool) (hs : s.size ≤ 1000) (h1 : opA s = a) (h2 : opOk s = ok) (w : World) :
    Calls Try.prog 14 #[.string s] w fun e w' => e = .returned (.tuple #[.string a, .bool ok]) ∧ Below w.heap.size w w' := by
  rw [← h1, ← h2]
  exact open_any s w (by unfold maxLen; omega)

set_option maxHeartbeats 1000000 in
theorem summed_true (w : World) : Calls Try.prog 8 #[] w fun e w' => e = .returned (.bool true) ∧ Below w.heap.size w w' := by
  go_enter Try.func8, Try.ntmps8
  go_wp2_with fail
  refine (ex_open ⟨#[0, 0, 0, 0]⟩ ⟨#[]⟩ true (by decide) (by decide +kernel) (by decide +kernel) _).mono ?_
  rintro e w1 ⟨rfl, hb1⟩
  go_wp2_with fail
  refine (ex_open ⟨#[0, 0, 0]⟩ ⟨#[]⟩ false (by decide) (by decide +kernel) (by decide +kernel) _).mono ?_
  rintro e w2 ⟨rfl, hb2⟩
  go_wp2_with fail
  refine (ex_sum ⟨#[]⟩ 0 (by decide) (by decide +kernel) _).mono ?_
  rintro e w3 ⟨rfl, rfl⟩
  go_wp2_with fail
  refine (ex_sum ⟨#[49, 50, 51, 52, 53, 54, 55, 56, 57]⟩ 3421780262 (by decide) (by decide +kernel) _).mono ?_
  rintro e w3 ⟨rfl, rfl⟩
  go_wp2_with fail
  refine (ex_sum ⟨#[97]⟩ 3904355907 (by decide) (by decide +kernel) _).mono ?_
  rintro e w3 ⟨rfl, rfl⟩
  go_wp2_with fail
  refine (ex_sum ⟨#[0]⟩ 3523407757 (by decide) (by decide +kernel) _).mono ?_
  rintro e w3 ⟨rfl, rfl⟩
  go_wp2_with fail
  refine (ex_seal ⟨#[]⟩ ⟨#[0, 0, 0, 0]⟩ (by decide) (by decide +kernel) _).mono ?_
  rintro e w4 ⟨rfl, hb4⟩
  go_wp2
  go_ret
  exact ⟨rfl, bj hb1 (bj hb2 hb4)⟩
end Go.Proofs.Ytmfdcenblpdhcaa

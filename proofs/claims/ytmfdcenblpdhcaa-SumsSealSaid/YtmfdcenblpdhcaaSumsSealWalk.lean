/- The walk of annalistlaw02.SumsSeal. -/
import Derived.Test.YtmfdcenblpdhcaaSumsEx
import Derived.Test.YtmfdcenblpdhcaaSumsSealRef
namespace Go.Proofs.Ytmfdcenblpdhcaa.sumsSealW
open Go.RowKit
set_option linter.unusedVariables false

theorem long (s : ByteArray) (hs : s.size ≤ maxLen) (h : 20000 < s.size) (w : World) :
    Calls Try.prog 4 #[.string s] w fun e w' => e = .returned (.bool true) ∧ Below w.heap.size w w' := by
  unfold maxLen at hs
  go_enter Try.func4, Try.ntmps4
  go_wp2_with fail
  refine (summed_true _).mono ?_
  rintro e w' ⟨rfl, hb⟩
  go_wp2
  go_ret
  exact ⟨rfl, ‹Below _ _ _›⟩

theorem seal_size (s : ByteArray) : (sealS s).size = s.size + 4 := by
  unfold sealS
  rw [ByteArray.size_append, bs_size, tailS_length]
theorem seal_cut (s : ByteArray) : (sealS s).extract 0 ((sealS s).size - 4) = s := by
  rw [seal_size, Nat.add_sub_cancel]
  have hl : s.data.toList.length = s.size := Array.length_toList
  apply ByteArray.ext
  apply Array.toList_inj.1
  simp [sealS]
  exact List.take_of_length_le (by omega)
theorem seal_open (s : ByteArray) : opOk (sealS s) = true ∧ opA (sealS s) = s := by
  have h4 : 4 ≤ (sealS s).size := by rw [seal_size]; omega
  have h := (seal_iff (sealS s) h4).1 (by rw [seal_cut])
  have h1 : opOk (sealS s) = true := by unfold opOk; exact decide_eq_true ⟨h4, h⟩
  refine ⟨h1, ?_⟩
  unfold opA
  rw [if_pos h1, seal_cut]

set_option maxHeartbeats 400000 in
theorem short (s : ByteArray) (hs : s.size ≤ 20000) (w : World) :
    Calls Try.prog 4 #[.string s] w fun e w' => e = .returned (.bool true) ∧ Below w.heap.size w w' := by
  have h1 := Lib.hid (fun w => seal_ref s w (by unfold maxLen; omega))
  have h2 := Lib.hid (fun w => open_any s w (by unfold maxLen; omega))
  have h3 := Lib.hid (fun w => open_ref s w (by unfold maxLen; omega))
  have h4 := Lib.hid (fun w => open_any (sealS s) w (by rw [seal_size]; unfold maxLen; omega))
  have h5 := Lib.hid (fun w => seal_any s w (by unfold maxLen; omega))
  rw [(seal_open s).1, (seal_open s).2] at h4
  generalize sealS s = t at *
  generalize opA s = a at *
  generalize opOk s = ok at *
  go_enter Try.func4, Try.ntmps4
  go_wp2_with fail
  refine (h1.out _).mono ?_
  rintro e w1 ⟨rfl, hb1⟩
  go_wp2_with fail
  refine (h2.out _).mono ?_
  rintro e w2 ⟨rfl, hb2⟩
  go_wp2_with fail
  refine (h3.out _).mono ?_
  rintro e w3 ⟨rfl, hb3⟩
  go_wp2_with fail
  refine (h4.out _).mono ?_
  rintro e w4 ⟨rfl, hb4⟩
  go_wp2_with fail
  refine (h5.out _).mono ?_
  rintro e w5 ⟨rfl, hb5⟩
  go_wp2_with fail
  refine (summed_true _).mono ?_
  rintro e w6 ⟨rfl, hb6⟩
  go_wp2
  go_ret
  exact ⟨rfl, bj hb1 (bj hb2 (bj hb3 (bj hb4 (bj hb5 hb6))))⟩

theorem walk (a0 : ByteArray) (w0 : a0.size ≤ maxLen) (w : World) :
    Calls Try.prog 4 #[.string a0] w fun e w' => e = .returned (.bool true) ∧ Below w.heap.size w w' := by
  by_cases h : a0.size ≤ 20000
  · exact short a0 h w
  · exact long a0 w0 (by omega) w
end Go.Proofs.Ytmfdcenblpdhcaa.sumsSealW

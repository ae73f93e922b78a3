/- Sealed texts, as plain lists. No function of the program. -/
import Derived.Test.YtcfidpjhemjbjaaOpenOne
import Derived.Test.YtcfidpjhemjbjaaTwist
namespace Go.Proofs.Ytcfidpjhemjbjaa
set_option linter.unusedVariables false

theorem sl_list (l : List UInt8) : (bs l).data.toList = l := by simp [bs]
theorem sl_size (s : ByteArray) : s.data.toList.length = s.size := Array.length_toList
theorem sl_append (a b : ByteArray) : (a ++ b).data.toList = a.data.toList ++ b.data.toList := by simp
/-- A part of a text, as a list. -/
theorem sl_ext (s : ByteArray) (a b : Nat) : (s.extract a b).data.toList = (s.data.toList.drop a).take (b - a) := by simp
theorem sl_extbs (s : ByteArray) (a b : Nat) : s.extract a b = bs ((s.data.toList.drop a).take (b - a)) := by rw [← sl_ext, bs_data]

theorem seal_list (s : ByteArray) : (sealS s).data.toList = s.data.toList ++ tailS s.data.toList := by simp [sealS, bs]
theorem seal_size (s : ByteArray) : (sealS s).size = s.size + 4 := by rw [← sl_size, seal_list, List.length_append, tailS_length, sl_size]
/-- What is sealed is sealed. -/
theorem opOk_seal (s : ByteArray) : opOk (sealS s) = true := by
  unfold opOk
  refine decide_eq_true ⟨by rw [seal_size]; omega, ?_⟩
  have e1 : (sealS s).extract 0 ((sealS s).size - 4) = s := by
    rw [sl_extbs, seal_size, seal_list]
    have : s.data.toList.length = s.size := sl_size s
    rw [List.drop_zero, show s.size + 4 - 4 - 0 = s.data.toList.length by omega, List.take_left, bs_data]
  rw [e1, sl_extbs, seal_size, seal_list]
  have : s.data.toList.length = s.size := sl_size s
  rw [show s.size + 4 - 4 = s.data.toList.length by omega, List.drop_left, List.take_of_length_le (by rw [tailS_length]; omega)]
/-- The state behind what is sealed. -/
theorem sealed_fold {s : ByteArray} (h : opOk s = true) : foldS 4294967295 s.data.toList = stk 32 4294967295 := by
  obtain ⟨h4, h5⟩ := of_decide_eq_true h
  have hl := sl_size s
  have h6 := congrArg (fun s : ByteArray => s.data.toList) h5
  simp only [sl_ext, sl_list] at h6
  rw [List.drop_zero, List.take_of_length_le (by rw [List.length_drop]; omega)] at h6
  have h7 := (sealed_iff (s.data.toList.take (s.size - 4 - 0)) (s.data.toList.drop (s.size - 4)) (by rw [List.length_drop]; omega)).1 h6
  rw [Nat.sub_zero, List.take_append_drop] at h7
  exact h7
/-- Sealed texts that differ within four places, side by side, alone, are the same. -/
theorem sealed_near {s t : ByteArray} (hs : opOk s = true) (ht : opOk t = true) (k : Nat) (hl : s.size = t.size) (ho : ∀ j, j < k ∨ k + 4 ≤ j → s.data.toList[j]? = t.data.toList[j]?) : s = t := by
  have h := window (x := 4294967295) (by decide) s.data.toList t.data.toList k (by rw [sl_size, sl_size, hl]) ho (by rw [sealed_fold hs, sealed_fold ht])
  rw [← bs_data s, h, bs_data]
end Go.Proofs.Ytcfidpjhemjbjaa

/- The document's own part of NumsText. -/
import Derived.Test.YtnefofcofccmfaaNumsText
namespace Go.Proofs.Ytnefofcofccmfaa
open Go.RowKit
set_option linter.unusedVariables false

theorem textr_no (s : ByteArray) (w : World) (hs : s.size ≤ maxLen) (h : 65535 < s.size) :
    Calls Try.prog 26 #[.string s] w fun e w' => e = .returned (.string ByteArray.empty) ∧ w = w' := by
  unfold maxLen at hs
  go_enter Try.func26, Try.ntmps26
  go_wp2
  go_ret
  exact ⟨rfl, rfl⟩

theorem conv_two {m : Nat} (hm : m ≤ 65535) : ∀ wx : World, (convert 50 9 (.slice (some ⟨wx.heap.size, 0, none⟩) 2 2)).run Try.prog (wx.alloc (.cells #[.int .u8 ((m : Int) / 256), .int .u8 ((m : Int) % 256)] 5)) = .ok (.string (bs (be 2 m))) (wx.alloc (.cells #[.int .u8 ((m : Int) / 256), .int .u8 ((m : Int) % 256)] 5)) := fun wx => by
  refine run_convert_bytes_back (P := Try.prog) _ 50 9 5 ⟨wx.heap.size, 0, none⟩ 2 (be 2 m) Try.underlying50 Try.underlying5 Try.underlying9 (fun j hj => ?_)
  have e : (⟨wx.heap.size, 0, none⟩ : Addr).add j = ⟨wx.heap.size, j, none⟩ := by simp [Addr.add]; omega
  rw [e, World.cell?_alloc_at _ _ _ _ rfl]
  rw [be_length] at hj
  match j, hj with
  | 0, _ => simp [be]; omega
  | 1, _ => simp [be]

theorem textr_yes (s : ByteArray) (w : World) (h : s.size ≤ 65535) :
    Calls Try.prog 26 #[.string s] w fun e w' => e = .returned (.string (bs (be 2 s.size) ++ s)) ∧ Below w.heap.size w w' := by
  have ha := add_text s h (be 2 s.size) (be_length _ _)
  go_enter Try.func26, Try.ntmps26
  have hcv := conv_two (m := s.size) (by omega)
  go_wp2
  go_ret
  exact ⟨rfl, (Below.refl _ _).alloc (Nat.le_refl _) _⟩

theorem textr_any (s : ByteArray) (w : World) (hs : s.size ≤ maxLen) :
    Calls Try.prog 26 #[.string s] w fun e w' => e = .returned (.string (textS s)) ∧ Below w.heap.size w w' := by
  unfold textS
  by_cases h : s.size ≤ 65535
  · rw [if_pos h]; exact textr_yes s w h
  · rw [if_neg h]; exact (textr_no s w hs (by omega)).mono fun e w' ⟨he, hw⟩ => ⟨he, hw ▸ Below.refl _ _⟩
end Go.Proofs.Ytnefofcofccmfaa

/- nums.Text and the document's own Text: a text with its length ahead of it. -/
import Derived.Test.YtlcdloljhcnchaaNumsPut
import Derived.Test.YtlcdloljhcnchaaNumsRead
namespace Go.Proofs.Ytlcdloljhcnchaa
open Go.RowKit
set_option linter.unusedVariables false

/-- A text, put (P1.2). -/
def textS (s : ByteArray) : ByteArray := if s.size ≤ 65535 then bs (be 2 s.size) ++ s else ByteArray.empty

theorem put_two (n : Nat) (w : World) (hn : n < 18446744073709551616) :
    Calls Try.prog 8 #[.int .u64 (n : Nat), .int .i64 2] w fun e w' => e = .returned (.string (bs (be 2 n))) ∧ Below w.heap.size w w' :=
  put_some n 2 w (by omega) (by omega) hn

theorem add_text (s : ByteArray) (h : s.size ≤ 65535) (l : List UInt8) (hl : l.length = 2) (w : World) : (Op.stringOp .add (bs l) s).run Try.prog w = .ok (.string (bs l ++ s)) w :=
  run_string_add_sum (P := Try.prog) (w := w) (bs l) s (by rw [bs_size, hl]; omega)

theorem text_no (s : ByteArray) (w : World) (hs : s.size ≤ maxLen) (h : 65535 < s.size) :
    Calls Try.prog 14 #[.string s] w fun e w' => e = .returned (.string ByteArray.empty) ∧ w = w' := by
  unfold maxLen at hs
  go_enter Try.func14, Try.ntmps14
  go_wp2
  go_ret
  exact ⟨rfl, rfl⟩

theorem text_yes (s : ByteArray) (w : World) (h : s.size ≤ 65535) :
    Calls Try.prog 14 #[.string s] w fun e w' => e = .returned (.string (bs (be 2 s.size) ++ s)) ∧ Below w.heap.size w w' := by
  have hp := Lib.hid (put_two s.size w (by omega))
  have ha := add_text s h (be 2 s.size) (be_length _ _)
  go_enter Try.func14, Try.ntmps14
  go_wp2_with (go_at_call 8; refine hp.out.mono ?_; rintro e w' ⟨rfl, hb⟩)
  go_ret
  exact ⟨rfl, ‹Below _ _ _›⟩

theorem text_any (s : ByteArray) (w : World) (hs : s.size ≤ maxLen) :
    Calls Try.prog 14 #[.string s] w fun e w' => e = .returned (.string (textS s)) ∧ Below w.heap.size w w' := by
  unfold textS
  by_cases h : s.size ≤ 65535
  · rw [if_pos h]; exact text_yes s w h
  · rw [if_neg h]; exact (text_no s w hs (by omega)).mono fun e w' ⟨he, hw⟩ => ⟨he, hw ▸ Below.refl _ _⟩

theorem textr_no (s : ByteArray) (w : World) (hs : s.size ≤ maxLen) (h : 65535 < s.size) :
    Calls Try.prog 15 #[.string s] w fun e w' => e = .returned (.string ByteArray.empty) ∧ w = w' := by
  unfold maxLen at hs
  go_enter Try.func15, Try.ntmps15
  go_wp2
  go_ret
  exact ⟨rfl, rfl⟩

theorem conv_two {m : Nat} (hm : m ≤ 65535) : ∀ wx : World, (convert 34 9 (.slice (some ⟨wx.heap.size, 0, none⟩) 2 2)).run Try.prog (wx.alloc (.cells #[.int .u8 ((m : Int) / 256), .int .u8 ((m : Int) % 256)] 5)) = .ok (.string (bs (be 2 m))) (wx.alloc (.cells #[.int .u8 ((m : Int) / 256), .int .u8 ((m : Int) % 256)] 5)) := fun wx => by
  refine run_convert_bytes_back (P := Try.prog) _ 34 9 5 ⟨wx.heap.size, 0, none⟩ 2 (be 2 m) Try.underlying34 Try.underlying5 Try.underlying9 (fun j hj => ?_)
  have e : (⟨wx.heap.size, 0, none⟩ : Addr).add j = ⟨wx.heap.size, j, none⟩ := by simp [Addr.add]; omega
  rw [e, World.cell?_alloc_at _ _ _ _ rfl]
  rw [be_length] at hj
  match j, hj with
  | 0, _ => simp [be]; omega
  | 1, _ => simp [be]

theorem textr_yes (s : ByteArray) (w : World) (h : s.size ≤ 65535) :
    Calls Try.prog 15 #[.string s] w fun e w' => e = .returned (.string (bs (be 2 s.size) ++ s)) ∧ Below w.heap.size w w' := by
  have ha := add_text s h (be 2 s.size) (be_length _ _)
  go_enter Try.func15, Try.ntmps15
  have hcv := conv_two (m := s.size) (by omega)
  go_wp2
  go_ret
  exact ⟨rfl, (Below.refl _ _).alloc (Nat.le_refl _) _⟩

theorem textr_any (s : ByteArray) (w : World) (hs : s.size ≤ maxLen) :
    Calls Try.prog 15 #[.string s] w fun e w' => e = .returned (.string (textS s)) ∧ Below w.heap.size w w' := by
  unfold textS
  by_cases h : s.size ≤ 65535
  · rw [if_pos h]; exact textr_yes s w h
  · rw [if_neg h]; exact (textr_no s w hs (by omega)).mono fun e w' ⟨he, hw⟩ => ⟨he, hw ▸ Below.refl _ _⟩
end Go.Proofs.Ytlcdloljhcnchaa

/- nums.Text and the document's own Text: a text with its length ahead of it. -/
import Derived.Test.YtnefofcofccmfaaNumsPut
namespace Go.Proofs.Ytnefofcofccmfaa
open Go.RowKit
set_option linter.unusedVariables false

/-- A text, put (P1.2). -/
def textS (s : ByteArray) : ByteArray := if s.size ≤ 65535 then bs (be 2 s.size) ++ s else ByteArray.empty

theorem put_two (n : Nat) (w : World) (hn : n < 18446744073709551616) :
    Calls Try.prog 23 #[.int .u64 (n : Nat), .int .i64 2] w fun e w' => e = .returned (.string (bs (be 2 n))) ∧ Below w.heap.size w w' :=
  put_some n 2 w (by omega) (by omega) hn

theorem add_text (s : ByteArray) (h : s.size ≤ 65535) (l : List UInt8) (hl : l.length = 2) (w : World) : (Op.stringOp .add (bs l) s).run Try.prog w = .ok (.string (bs l ++ s)) w :=
  run_string_add_sum (P := Try.prog) (w := w) (bs l) s (by rw [bs_size, hl]; omega)

theorem text_no (s : ByteArray) (w : World) (hs : s.size ≤ maxLen) (h : 65535 < s.size) :
    Calls Try.prog 22 #[.string s] w fun e w' => e = .returned (.string ByteArray.empty) ∧ w = w' := by
  unfold maxLen at hs
  go_enter Try.func22, Try.ntmps22
  go_wp2
  go_ret
  exact ⟨rfl, rfl⟩

theorem text_yes (s : ByteArray) (w : World) (h : s.size ≤ 65535) :
    Calls Try.prog 22 #[.string s] w fun e w' => e = .returned (.string (bs (be 2 s.size) ++ s)) ∧ Below w.heap.size w w' := by
  have hp := Lib.hid (put_two s.size w (by omega))
  have ha := add_text s h (be 2 s.size) (be_length _ _)
  go_enter Try.func22, Try.ntmps22
  go_wp2_with (go_at_call 23; refine hp.out.mono ?_; rintro e w' ⟨rfl, hb⟩)
  go_ret
  exact ⟨rfl, ‹Below _ _ _›⟩

theorem text_any (s : ByteArray) (w : World) (hs : s.size ≤ maxLen) :
    Calls Try.prog 22 #[.string s] w fun e w' => e = .returned (.string (textS s)) ∧ Below w.heap.size w w' := by
  unfold textS
  by_cases h : s.size ≤ 65535
  · rw [if_pos h]; exact text_yes s w h
  · rw [if_neg h]; exact (text_no s w hs (by omega)).mono fun e w' ⟨he, hw⟩ => ⟨he, hw ▸ Below.refl _ _⟩
end Go.Proofs.Ytnefofcofccmfaa

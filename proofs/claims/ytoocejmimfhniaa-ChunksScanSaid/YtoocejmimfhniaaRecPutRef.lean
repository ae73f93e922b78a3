/- The document's Put of records. -/
import Derived.Test.YtoocejmimfhniaaRecMath
import Derived.Test.YtoocejmimfhniaaSealOneRef
import Derived.Test.YtoocejmimfhniaaNumsPutRef
namespace Go.Proofs.Ytoocejmimfhniaa
open Go.RowKit
set_option linter.unusedVariables false

theorem prec_no (p : ByteArray) (w : World) (hp : p.size ≤ maxLen) (h : 2000 < p.size) :
    Calls Try.prog 27 #[.string p] w fun e w' => e = .returned (.tuple #[.string ByteArray.empty, .int .i64 3]) ∧ Below w.heap.size w w' := by
  unfold maxLen at hp
  go_enter Try.func27, Try.ntmps27
  go_wp2
  go_ret2
  exact ⟨rfl, Below.refl _ _⟩

theorem prec_yes (p : ByteArray) (w : World) (h : p.size ≤ 2000) :
    Calls Try.prog 27 #[.string p] w fun e w' => e = .returned (.tuple #[.string (recS p), .int .i64 0]) ∧ Below w.heap.size w w' := by
  have H1 := Lib.hid fun W => putr_some p.size 4 W (by omega) (by omega) (by omega)
  have hz : (bs (be 4 p.size) ++ p).size = p.size + 4 := by rw [ByteArray.size_append, bs_size, be_length]; omega
  have h4 : (bs (be 4 p.size)).size = 4 := by rw [bs_size, be_length]
  have a1 : ∀ w : World, (Op.stringOp .add (bs (be 4 p.size)) p).run Try.prog w = .ok (.string (bs (be 4 p.size) ++ p)) w := fun w => run_string_add_sum (P := Try.prog) (w := w) _ _ (by omega)
  have H2 := Lib.hid fun W => seal_ref (bs (be 4 p.size) ++ p) W (by unfold maxLen; omega)
  have hs := sealS_size (bs (be 4 p.size) ++ p)
  have a2 : ∀ w : World, (Op.stringOp .add (sealS (bs (be 4 p.size) ++ p)) (bs (be 4 p.size))).run Try.prog w = .ok (.string (recS p)) w := fun w => run_string_add_sum (P := Try.prog) (w := w) _ _ (by omega)
  generalize recS p = R at *
  generalize sealS (bs (be 4 p.size) ++ p) = S at *
  generalize bs (be 4 p.size) ++ p = T at *
  generalize bs (be 4 p.size) = N at *
  clear hz h4 hs
  go_enter Try.func27, Try.ntmps27
  go_wp2_with fail
  refine (H1.out _).mono ?_
  rintro e w1 ⟨rfl, hb1⟩
  go_wp2_with fail
  refine (H2.out _).mono ?_
  rintro e w2 ⟨rfl, hb2⟩
  go_wp2
  go_ret2
  exact ⟨rfl, bj hb1 hb2⟩

theorem prec_ref (p : ByteArray) (w : World) (hp : p.size ≤ maxLen) :
    Calls Try.prog 27 #[.string p] w fun e w' => e = .returned (.tuple #[.string (prS p), .int .i64 (prE p)]) ∧ Below w.heap.size w w' := by
  unfold prS prE
  by_cases h : 2000 < p.size
  · rw [if_pos h, if_pos h]; exact prec_no p w hp h
  · rw [if_neg h, if_neg h]; exact prec_yes p w (by omega)
end Go.Proofs.Ytoocejmimfhniaa

/- Events as plain data: what is wrong with one, its bytes, what is read of bytes. No program. -/
import Derived.Test.YtnefofcofccmfaaNumsRead
import Derived.Test.YtnefofcofccmfaaNumsText
namespace Go.Proofs.Ytnefofcofccmfaa
open Go.RowKit
set_option linter.unusedVariables false

/-- What is wrong with an event (P7.1). -/
def chk (t d : ByteArray) : Int := if t.size = 0 then 2 else if 16 < t.size ∨ 200 < d.size then 3 else 0
theorem chk_arg {t d : ByteArray} (h : t.size = 0) : chk t d = 2 := by unfold chk; rw [if_pos h]
theorem chk_long {t d : ByteArray} (h0 : ¬ t.size = 0) (h : 16 < t.size ∨ 200 < d.size) : chk t d = 3 := by unfold chk; rw [if_neg h0, if_pos h]
theorem chk_ok {t d : ByteArray} (h0 : ¬ t.size = 0) (h : ¬ (16 < t.size ∨ 200 < d.size)) : chk t d = 0 := by unfold chk; rw [if_neg h0, if_neg h]
theorem chk_zero {t d : ByteArray} : chk t d = 0 ↔ (1 ≤ t.size ∧ t.size ≤ 16 ∧ d.size ≤ 200) := by
  unfold chk
  by_cases h0 : t.size = 0
  · rw [if_pos h0]; omega
  · rw [if_neg h0]
    by_cases h : 16 < t.size ∨ 200 < d.size
    · rw [if_pos h]; omega
    · rw [if_neg h]; omega
theorem chk_cases (t d : ByteArray) : chk t d = 0 ∨ chk t d = 2 ∨ chk t d = 3 := by
  unfold chk
  by_cases h0 : t.size = 0
  · rw [if_pos h0]; omega
  · rw [if_neg h0]
    by_cases h : 16 < t.size ∨ 200 < d.size
    · rw [if_pos h]; omega
    · rw [if_neg h]; omega

/-- An event's bytes, if it may be. -/
def evB (t d : ByteArray) (b : Nat) : ByteArray := bs (be 2 t.size) ++ t ++ (bs (be 2 d.size) ++ d) ++ bs (be 8 b)
/-- An event's bytes (P7.1). -/
def evS (t d : ByteArray) (b : Nat) : ByteArray := if chk t d = 0 then evB t d b else ByteArray.empty
theorem evB_size (t d : ByteArray) (b : Nat) : (evB t d b).size = t.size + d.size + 12 := by
  unfold evB
  simp only [ByteArray.size_append, bs_size, be_length]
  omega

/-- What is read of bytes (P7.2): the text behind both texts, whether an event stands there, and which. -/
def erL (s : ByteArray) : ByteArray := rdB (rdB s)
def erOk (s : ByteArray) : Bool := decide (8 ≤ (erL s).size ∧ chk (rdA s) (rdA (rdB s)) = 0)
def erT (s : ByteArray) : ByteArray := if erOk s = true then rdA s else ByteArray.empty
def erD (s : ByteArray) : ByteArray := if erOk s = true then rdA (rdB s) else ByteArray.empty
def erW (s : ByteArray) : Nat := if erOk s = true then getS (erL s) else 0
def erR (s : ByteArray) : ByteArray := if erOk s = true then (erL s).extract 8 (erL s).size else ByteArray.empty
theorem er_yes {s : ByteArray} (h : erOk s = true) : erT s = rdA s ∧ erD s = rdA (rdB s) ∧ erW s = getS (erL s) ∧ erR s = (erL s).extract 8 (erL s).size := by
  simp [erT, erD, erW, erR, h]
theorem er_no {s : ByteArray} (h : erOk s = false) : erT s = ByteArray.empty ∧ erD s = ByteArray.empty ∧ erW s = 0 ∧ erR s = ByteArray.empty := by
  simp [erT, erD, erW, erR, h]
theorem rdB_size (s : ByteArray) : (rdB s).size ≤ s.size := by
  unfold rdB
  by_cases h : rdOk s = true
  · rw [if_pos h, ByteArray.size_extract]; omega
  · rw [if_neg h]; exact Nat.zero_le _
theorem rdA_size (s : ByteArray) : (rdA s).size ≤ s.size := by
  unfold rdA
  by_cases h : rdOk s = true
  · rw [if_pos h, ByteArray.size_extract]; omega
  · rw [if_neg h]; exact Nat.zero_le _
theorem erW_lt (s : ByteArray) : erW s < 18446744073709551616 := by
  unfold erW
  by_cases h : erOk s = true
  · rw [if_pos h]; exact getS_lt _
  · rw [if_neg h]; decide
theorem rdOk_empty : rdOk ByteArray.empty = false := by decide
/-- Of a text that is cut off nothing is left: so a text behind it is none, either. -/
theorem rdOk_of (s : ByteArray) (h : 0 < (rdB s).size) : rdOk s = true := by
  cases e : rdOk s with
  | true => rfl
  | false =>
    unfold rdB at h
    rw [e] at h
    simp at h
theorem rdOk_two (s : ByteArray) (h : 0 < (erL s).size) : rdOk s = true ∧ rdOk (rdB s) = true := by
  have h2 := rdOk_of (rdB s) h
  refine ⟨rdOk_of s ?_, h2⟩
  have : (rdB (rdB s)).size ≤ (rdB s).size := rdB_size _
  unfold erL at h
  omega

/-- Whether two events are the same (P7.3). -/
def evEq (t d : ByteArray) (b : Nat) (t' d' : ByteArray) (b' : Nat) : Bool := decide (t = t') && decide (d = d') && decide (b = b')
theorem evEq_self (t d : ByteArray) (b : Nat) : evEq t d b t d b = true := by simp [evEq]
theorem evEq_iff {t d : ByteArray} {b : Nat} {t' d' : ByteArray} {b' : Nat} : evEq t d b t' d' b' = true ↔ t = t' ∧ d = d' ∧ b = b' := by simp [evEq, and_assoc]
end Go.Proofs.Ytnefofcofccmfaa

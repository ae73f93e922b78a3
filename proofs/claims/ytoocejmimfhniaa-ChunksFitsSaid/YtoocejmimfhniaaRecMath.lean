/- Records as plain texts: a payload's record, what stands at a place, what ends there, and what stands from there on. No function of the program. -/
import Derived.Test.YtoocejmimfhniaaSealOne
namespace Go.Proofs.Ytoocejmimfhniaa
open Go.RowKit
set_option linter.unusedVariables false

/-- A payload's record. -/
def recS (p : ByteArray) : ByteArray := sealS (bs (be 4 p.size) ++ p) ++ bs (be 4 p.size)
theorem sealS_size (s : ByteArray) : (sealS s).size = s.size + 4 := by unfold sealS; rw [ByteArray.size_append, bs_size, tailS_length]
theorem recS_size (p : ByteArray) : (recS p).size = p.size + 12 := by
  unfold recS
  rw [ByteArray.size_append, sealS_size, ByteArray.size_append, bs_size, be_length]
  omega
/-- What Put tells (P8.1). -/
def prS (p : ByteArray) : ByteArray := if 2000 < p.size then ByteArray.empty else recS p
def prE (p : ByteArray) : Int := if 2000 < p.size then 3 else 0

/-- How long the payload at a place says it is. -/
def gtLen (s : ByteArray) (k : Nat) : Nat := getS (s.extract k (k + 4))
/-- Whether a record stands at a place (P8.2). -/
def gtOk (s : ByteArray) (k : Nat) : Bool := decide (k + 12 ≤ s.size ∧ gtLen s k ≤ 2000 ∧ k + gtLen s k + 12 ≤ s.size ∧ s.extract k (k + gtLen s k + 12) = recS (s.extract (k + 4) (k + 4 + gtLen s k)))
def getOk (s : ByteArray) (a : Int) : Bool := decide (0 ≤ a) && gtOk s a.toNat
def getP (s : ByteArray) (a : Int) : ByteArray := if getOk s a = true then s.extract (a.toNat + 4) (a.toNat + 4 + gtLen s a.toNat) else ByteArray.empty
def getN (s : ByteArray) (a : Int) : Nat := if getOk s a = true then a.toNat + gtLen s a.toNat + 12 else 0
theorem getOk_nat (s : ByteArray) (k : Nat) : getOk s (k : Nat) = gtOk s k := by simp [getOk]
theorem gt_no {s : ByteArray} {a : Int} (h : getOk s a = false) : getP s a = ByteArray.empty ∧ getN s a = 0 := by simp [getP, getN, h]
theorem gt_yes {s : ByteArray} {k : Nat} (h : gtOk s k = true) : getOk s (k : Nat) = true ∧ getP s (k : Nat) = s.extract (k + 4) (k + 4 + gtLen s k) ∧ getN s (k : Nat) = k + gtLen s k + 12 := by
  have e : getOk s (k : Nat) = true := by rw [getOk_nat]; exact h
  simp [getP, getN, e]
theorem gtOk_iff {s : ByteArray} {k : Nat} : gtOk s k = true ↔ (k + 12 ≤ s.size ∧ gtLen s k ≤ 2000 ∧ k + gtLen s k + 12 ≤ s.size ∧ s.extract k (k + gtLen s k + 12) = recS (s.extract (k + 4) (k + 4 + gtLen s k))) := by simp [gtOk]
theorem gtOk_false {s : ByteArray} {k : Nat} (h : ¬ (k + 12 ≤ s.size ∧ gtLen s k ≤ 2000 ∧ k + gtLen s k + 12 ≤ s.size ∧ s.extract k (k + gtLen s k + 12) = recS (s.extract (k + 4) (k + 4 + gtLen s k)))) : gtOk s k = false := by
  cases e : gtOk s k with
  | false => rfl
  | true => exact absurd (gtOk_iff.1 e) h
theorem getN_le (s : ByteArray) (a : Int) : getN s a ≤ s.size := by
  unfold getN
  by_cases h : getOk s a = true
  · rw [if_pos h]
    have h2 : gtOk s a.toNat = true := by simp [getOk] at h; exact h.2
    have := gtOk_iff.1 h2
    omega
  · rw [if_neg h]; exact Nat.zero_le _
theorem getN_lt {s : ByteArray} {k : Nat} (h : gtOk s k = true) : k + 12 ≤ getN s (k : Nat) ∧ getN s (k : Nat) ≤ s.size := by
  obtain ⟨_, _, e⟩ := gt_yes h
  have := gtOk_iff.1 h
  rw [e]
  omega

/-- What ends at a place (P8.2). -/
def bkLen (s : ByteArray) (e : Nat) : Nat := getS (s.extract (e - 4) e)
def bkOk (s : ByteArray) (a : Int) : Bool := decide (12 ≤ a ∧ a ≤ s.size ∧ bkLen s a.toNat ≤ 2000 ∧ bkLen s a.toNat + 12 ≤ a.toNat) && gtOk s (a.toNat - 12 - bkLen s a.toNat) && decide (getN s ((a.toNat - 12 - bkLen s a.toNat : Nat) : Int) = a.toNat)
def bkA (s : ByteArray) (a : Int) : Nat := if bkOk s a = true then a.toNat - 12 - bkLen s a.toNat else 0
def bkP (s : ByteArray) (a : Int) : ByteArray := if bkOk s a = true then getP s ((a.toNat - 12 - bkLen s a.toNat : Nat) : Int) else ByteArray.empty
theorem bk_no {s : ByteArray} {a : Int} (h : bkOk s a = false) : bkP s a = ByteArray.empty ∧ bkA s a = 0 := by simp [bkP, bkA, h]

/-- What stands from a place on (P8.3): so many rounds. -/
def whL (s : ByteArray) : Nat → Nat → List Int
  | 0, _ => []
  | n + 1, k => if gtOk s k = true then (k : Int) :: whL s n (getN s (k : Nat)) else []
def whE (s : ByteArray) : Nat → Nat → Nat
  | 0, k => k
  | n + 1, k => if gtOk s k = true then whE s n (getN s (k : Nat)) else k
def wlL (s : ByteArray) (a : Int) : List Int := if 0 ≤ a ∧ a ≤ s.size then whL s (s.size + 1) a.toNat else []
def wlE (s : ByteArray) (a : Int) : Nat := if 0 ≤ a ∧ a ≤ s.size then whE s (s.size + 1) a.toNat else 0
/-- More rounds than there are bytes left make no difference. -/
theorem wh_more (s : ByteArray) : ∀ (n m k : Nat), s.size < k + n → s.size < k + m → k ≤ s.size → whL s n k = whL s m k ∧ whE s n k = whE s m k
  | 0, m, k, h1, h2, hk => by omega
  | n + 1, 0, k, h1, h2, hk => by omega
  | n + 1, m + 1, k, h1, h2, hk => by
    unfold whL whE
    by_cases h : gtOk s k = true
    · have hl := getN_lt h
      obtain ⟨e1, e2⟩ := wh_more s n m (getN s (k : Nat)) (by omega) (by omega) (by omega)
      rw [if_pos h, if_pos h, if_pos h, if_pos h, e1, e2]
      exact ⟨rfl, rfl⟩
    · rw [if_neg h, if_neg h, if_neg h, if_neg h]
      exact ⟨rfl, rfl⟩
theorem wh_step {s : ByteArray} {k : Nat} (hk : k ≤ s.size) (h : gtOk s k = true) :
    whL s (s.size + 1) k = (k : Int) :: whL s (s.size + 1) (getN s (k : Nat)) ∧ whE s (s.size + 1) k = whE s (s.size + 1) (getN s (k : Nat)) := by
  have hl := getN_lt h
  obtain ⟨e1, e2⟩ := wh_more s s.size (s.size + 1) (getN s (k : Nat)) (by omega) (by omega) (by omega)
  constructor
  · rw [whL, if_pos h, e1]
  · rw [whE, if_pos h, e2]
theorem wh_stop {s : ByteArray} {k : Nat} (h : gtOk s k = false) : whL s (s.size + 1) k = [] ∧ whE s (s.size + 1) k = k := by
  constructor
  · rw [whL, if_neg (by rw [h]; decide)]
  · rw [whE, if_neg (by rw [h]; decide)]
end Go.Proofs.Ytoocejmimfhniaa

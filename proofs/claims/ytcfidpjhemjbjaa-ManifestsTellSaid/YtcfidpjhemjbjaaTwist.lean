/- A list of bytes of which four, side by side, are turned over. No function of the program. -/
import Derived.Test.YtcfidpjhemjbjaaSumsMath
import Derived.Test.YtcfidpjhemjbjaaNumsPut
import Derived.Test.YtcfidpjhemjbjaaBytes
namespace Go.Proofs.Ytcfidpjhemjbjaa
open Go.RowKit
set_option linter.unusedVariables false

/-- A list of which i bytes from place k on are turned over by y's bytes, the lowest one first. -/
def tw (y k i : Nat) (l : List UInt8) : List UInt8 := l.mapIdx fun j c => if k ≤ j ∧ j < k + i then c ^^^ UInt8.ofNat (y / 256 ^ (j - k)) else c
theorem tw_length (y k i : Nat) (l : List UInt8) : (tw y k i l).length = l.length := by unfold tw; rw [List.length_mapIdx]
theorem tw_at (y k i : Nat) (l : List UInt8) (j : Nat) : (tw y k i l)[j]? = (l[j]?).map fun c => if k ≤ j ∧ j < k + i then c ^^^ UInt8.ofNat (y / 256 ^ (j - k)) else c := by
  unfold tw
  rw [List.getElem?_mapIdx]
theorem tw_zero (y k : Nat) (l : List UInt8) : tw y k 0 l = l := by
  apply List.ext_getElem?
  intro j
  rw [tw_at]
  cases h : l[j]? with
  | none => rfl
  | some c => simp; omega
theorem tw_out (y k i : Nat) (l : List UInt8) (j : Nat) (h : j < k ∨ k + i ≤ j) : (tw y k i l)[j]? = l[j]? := by
  rw [tw_at]
  cases h : l[j]? with
  | none => rfl
  | some c => rw [Option.map_some, if_neg (by omega)]
/-- One byte more. -/
theorem tw_step (y k i n : Nat) (l : List UInt8) (hl : l.length = n) (j : Nat) (hj : j < n) (hk : k + i < n) :
    (if j = k + i then Value.int .u8 (bits .xor .u8 (((tw y k i l).getD (k + i) 0).toNat : Int) ((y : Int) / 2 ^ (8 * i) % 256)) else u8At (tw y k i l) j) = u8At (tw y k (i + 1) l) j := by
  have hc : ((tw y k i l).getD (k + i) 0) = l.getD (k + i) 0 := by
    rw [List.getD_eq_getElem?_getD, List.getD_eq_getElem?_getD, tw_out y k i l _ (by omega)]
  by_cases h : j = k + i
  · rw [if_pos h, h, hc, byte_val, u8_xor_nat _ _ (UInt8.toNat_lt _) (Nat.mod_lt _ (by decide))]
    unfold u8At
    rw [List.getD_eq_getElem?_getD, List.getD_eq_getElem?_getD, tw_at, List.getElem?_eq_getElem (by omega)]
    simp only [Option.getD_some, Option.map_some]
    rw [if_pos (by omega), UInt8.toNat_xor, UInt8.toNat_ofNat', show k + i - k = i by omega]
  · rw [if_neg h]
    unfold u8At
    rw [List.getD_eq_getElem?_getD, List.getD_eq_getElem?_getD, tw_at, tw_at]
    cases e : l[j]? with
    | none => rfl
    | some c =>
      simp only [Option.map_some]
      by_cases h2 : k ≤ j ∧ j < k + i
      · rw [if_pos h2, if_pos (by omega)]
      · rw [if_neg h2, if_neg (by omega)]
theorem byte_zero (y : Nat) (hy : y < 4294967296) (h : ∀ i, i < 4 → UInt8.ofNat (y / 256 ^ i) = 0) : y = 0 := by
  have p1 : (256 : Nat) ^ 1 = 256 := by decide
  have p2 : (256 : Nat) ^ 2 = 65536 := by decide
  have p3 : (256 : Nat) ^ 3 = 16777216 := by decide
  have h' : ∀ i, i < 4 → y / 256 ^ i % 256 = 0 := fun i hi => by
    have e := congrArg UInt8.toNat (h i hi)
    rw [UInt8.toNat_ofNat'] at e
    exact e
  have h0 := h' 0 (by decide)
  have h1 := h' 1 (by decide)
  have h2 := h' 2 (by decide)
  have h3 := h' 3 (by decide)
  rw [Nat.pow_zero, Nat.div_one] at h0
  rw [p1] at h1
  rw [p2] at h2
  rw [p3] at h3
  omega
theorem xor_self8 {a b : UInt8} (h : a ^^^ b = a) : b = 0 := by
  have h1 := congrArg UInt8.toNat h
  rw [UInt8.toNat_xor] at h1
  have h2 : a.toNat ^^^ b.toNat = a.toNat ^^^ 0 := by rw [h1, Nat.xor_zero]
  exact UInt8.toNat_inj.1 (xor_cancel h2)
theorem tw_other (y k : Nat) (l : List UInt8) (hy : y < 4294967296) (h0 : y ≠ 0) (hk : k + 4 ≤ l.length) : tw y k 4 l ≠ l := by
  intro e
  apply h0
  apply byte_zero y hy
  intro i hi
  have h := tw_at y k 4 l (k + i)
  rw [e, List.getElem?_eq_getElem (by omega)] at h
  simp only [Option.map_some, Option.some.injEq] at h
  rw [if_pos (by omega), show k + i - k = i by omega] at h
  exact xor_self8 h.symm

/-- Lists that differ within four places, side by side, alone, and have one state behind them, are the same. -/
theorem window {x : Nat} (hx : x < 4294967296) (l m : List UInt8) (k : Nat) (hl : l.length = m.length) (ho : ∀ j, j < k ∨ k + 4 ≤ j → l[j]? = m[j]?) (e : foldS x l = foldS x m) : l = m := by
  have cut : ∀ l : List UInt8, l = l.take k ++ (l.drop k).take 4 ++ l.drop (k + 4) := fun l => by
    have h1 := List.take_append_drop k l
    have h2 := List.take_append_drop 4 (l.drop k)
    rw [List.drop_drop] at h2
    rw [List.append_assoc, h2, h1]
  have e1 : l.take k = m.take k := by
    apply List.ext_getElem?
    intro j
    rw [List.getElem?_take, List.getElem?_take]
    split
    · exact ho j (Or.inl (by omega))
    · rfl
  have e2 : l.drop (k + 4) = m.drop (k + 4) := by
    apply List.ext_getElem?
    intro j
    rw [List.getElem?_drop, List.getElem?_drop]
    exact ho _ (Or.inr (by omega))
  rw [cut l, cut m, e1, e2] at e
  have h := foldS_turned hx _ _ (by simp only [List.length_take, List.length_drop]; omega) (by rw [List.length_take]; omega) e
  rw [cut l, cut m, e1, e2, h]
end Go.Proofs.Ytcfidpjhemjbjaa

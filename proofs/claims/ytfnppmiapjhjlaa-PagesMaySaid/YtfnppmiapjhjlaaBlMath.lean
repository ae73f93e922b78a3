/- Probes, and bits of bytes, as plain numbers and lists: no program. -/
import Derived.Test.YtfnppmiapjhjlaaHashMath
namespace Go.Proofs.Ytfnppmiapjhjlaa
set_option linter.unusedVariables false

/-- The probe i of a hash among so many bits. -/
def prb (h : Nat) (i bits : Int) : Nat := if bits < 1 ∨ i < 0 then 0 else (h + i.toNat * stepH h) % 18446744073709551616 % bits.toNat
/-- How many probes are asked. -/
def nps (p : Int) : Nat := (min p 64).toNat
/-- The bits that a hash asks. -/
def asksL (h : Nat) (p bits : Int) : List Nat := (List.range (nps p)).map fun i => prb h (i : Nat) bits
theorem prb_lt (h : Nat) (i : Int) {bits : Int} (hb : 1 ≤ bits) : prb h i bits < bits.toNat := by
  unfold prb
  split
  · omega
  · exact Nat.mod_lt _ (by omega)
theorem prb_le (h : Nat) (i bits : Int) : (prb h i bits : Int) ≤ max bits 0 := by
  by_cases hb : 1 ≤ bits
  · have := prb_lt h i hb
    omega
  · unfold prb
    rw [if_pos (by omega)]
    omega
theorem nps_le (p : Int) : nps p ≤ 64 := by unfold nps; omega
theorem asksL_length (h : Nat) (p bits : Int) : (asksL h p bits).length = nps p := by unfold asksL; rw [List.length_map, List.length_range]
theorem asksL_mem {h k : Nat} {p bits : Int} : k ∈ asksL h p bits ↔ ∃ i : Nat, i < nps p ∧ prb h (i : Nat) bits = k := by unfold asksL; simp
theorem asksL_lt {h k : Nat} {p bits : Int} (hb : 1 ≤ bits) (hk : k ∈ asksL h p bits) : k < bits.toNat := by
  obtain ⟨i, _, rfl⟩ := asksL_mem.1 hk
  exact prb_lt h _ hb
/-- Up to the probe i. -/
def asksTo (h : Nat) (bits : Int) (i : Nat) : List Nat := (List.range i).map fun i => prb h (i : Nat) bits
theorem asksTo_succ (h : Nat) (bits : Int) (i : Nat) : asksTo h bits (i + 1) = asksTo h bits i ++ [prb h (i : Nat) bits] := by unfold asksTo; rw [List.range_succ, List.map_append]; rfl
theorem asksTo_all (h : Nat) (p bits : Int) : asksTo h bits (nps p) = asksL h p bits := rfl
theorem asksTo_zero (h : Nat) (bits : Int) : asksTo h bits 0 = [] := rfl

/-- A byte of eight bits. -/
def by8 (b0 b1 b2 b3 b4 b5 b6 b7 : Bool) : Nat := (((((((b7.toNat * 2 + b6.toNat) * 2 + b5.toNat) * 2 + b4.toNat) * 2 + b3.toNat) * 2 + b2.toNat) * 2 + b1.toNat) * 2 + b0.toNat)
theorem by8_lt (b0 b1 b2 b3 b4 b5 b6 b7 : Bool) : by8 b0 b1 b2 b3 b4 b5 b6 b7 < 256 := by
  revert b0 b1 b2 b3 b4 b5 b6 b7; decide +kernel
theorem by8_bit (b0 b1 b2 b3 b4 b5 b6 b7 : Bool) : (by8 b0 b1 b2 b3 b4 b5 b6 b7).testBit 0 = b0 ∧ (by8 b0 b1 b2 b3 b4 b5 b6 b7).testBit 1 = b1 ∧ (by8 b0 b1 b2 b3 b4 b5 b6 b7).testBit 2 = b2 ∧ (by8 b0 b1 b2 b3 b4 b5 b6 b7).testBit 3 = b3 ∧
    (by8 b0 b1 b2 b3 b4 b5 b6 b7).testBit 4 = b4 ∧ (by8 b0 b1 b2 b3 b4 b5 b6 b7).testBit 5 = b5 ∧ (by8 b0 b1 b2 b3 b4 b5 b6 b7).testBit 6 = b6 ∧ (by8 b0 b1 b2 b3 b4 b5 b6 b7).testBit 7 = b7 := by
  revert b0 b1 b2 b3 b4 b5 b6 b7; decide +kernel
/-- Bit k is set. -/
def on (D : List Nat) (k : Nat) : Bool := decide (k ∈ D)
/-- A byte's value behind j steps from the highest bit down. -/
def hbit (D : List Nat) (i : Nat) : Nat → Nat
  | 0 => 0
  | j + 1 => hbit D i j * 2 + (on D (8 * i + (7 - j))).toNat
/-- The byte i where the bits of D are set. -/
def byL (D : List Nat) (i : Nat) : Nat := hbit D i 8
theorem byL_eq (D : List Nat) (i : Nat) : byL D i = by8 (on D (8 * i + 0)) (on D (8 * i + 1)) (on D (8 * i + 2)) (on D (8 * i + 3)) (on D (8 * i + 4)) (on D (8 * i + 5)) (on D (8 * i + 6)) (on D (8 * i + 7)) := by
  simp only [byL, hbit, by8]
  simp
theorem byL_lt (D : List Nat) (i : Nat) : byL D i < 256 := by rw [byL_eq]; exact by8_lt _ _ _ _ _ _ _ _
theorem byL_bit (D : List Nat) (i k : Nat) (hk : k < 8) : (byL D i).testBit k = on D (8 * i + k) := by
  rw [byL_eq]
  obtain ⟨h0, h1, h2, h3, h4, h5, h6, h7⟩ := by8_bit (on D (8 * i + 0)) (on D (8 * i + 1)) (on D (8 * i + 2)) (on D (8 * i + 3)) (on D (8 * i + 4)) (on D (8 * i + 5)) (on D (8 * i + 6)) (on D (8 * i + 7))
  match k, hk with
  | 0, _ => exact h0
  | 1, _ => exact h1
  | 2, _ => exact h2
  | 3, _ => exact h3
  | 4, _ => exact h4
  | 5, _ => exact h5
  | 6, _ => exact h6
  | 7, _ => exact h7
theorem hbit_lt (D : List Nat) (i : Nat) : ∀ j, hbit D i j < 2 ^ j
  | 0 => by simp [hbit]
  | j + 1 => by
    have := hbit_lt D i j
    have h2 : (on D (8 * i + (7 - j))).toNat ≤ 1 := Bool.toNat_le _
    rw [hbit, Nat.pow_succ]
    omega
theorem bit_big {a k : Nat} (ha : a < 256) (hk : 8 ≤ k) : a.testBit k = false := Nat.testBit_lt_two_pow (Nat.lt_of_lt_of_le ha (show 2 ^ 8 ≤ 2 ^ k from Nat.pow_le_pow_right (by decide) hk))
theorem byte_ext {a b : Nat} (ha : a < 256) (hb : b < 256) (h : ∀ k, k < 8 → a.testBit k = b.testBit k) : a = b := by
  apply Nat.eq_of_testBit_eq
  intro k
  by_cases hk : k < 8
  · exact h k hk
  · rw [bit_big ha (by omega), bit_big hb (by omega)]
theorem pow8_lt {k : Nat} (hk : k < 8) : 2 ^ k < 256 := Nat.pow_lt_pow_right (by decide) hk (m := k) (n := 8)
theorem or_lt8 {a b : Nat} (ha : a < 256) (hb : b < 256) : a ||| b < 256 := Nat.or_lt_two_pow (n := 8) ha hb
theorem and_lt8 {a b : Nat} (ha : a < 256) : a &&& b < 256 := Nat.lt_of_le_of_lt Nat.and_le_left ha
theorem on_append (D E : List Nat) (k : Nat) : on (D ++ E) k = (on D k || on E k) := by unfold on; rw [← Bool.decide_or]; exact decide_eq_decide.2 (by simp)
theorem on_one (x k : Nat) : on [x] k = decide (k = x) := by unfold on; exact decide_eq_decide.2 (by simp)
/-- A bit more is set. -/
theorem byL_set (D : List Nat) (x : Nat) : byL (D ++ [x]) (x / 8) = byL D (x / 8) ||| 2 ^ (x % 8) := by
  have hx : x % 8 < 8 := Nat.mod_lt _ (by decide)
  refine byte_ext (byL_lt _ _) (or_lt8 (byL_lt _ _) (pow8_lt hx)) fun k hk => ?_
  rw [byL_bit _ _ _ hk, Nat.testBit_or, byL_bit _ _ _ hk, Nat.testBit_two_pow, on_append, on_one]
  congr 1
  exact decide_eq_decide.2 (by omega)
theorem byL_far (D : List Nat) (x i : Nat) (h : i ≠ x / 8) : byL (D ++ [x]) i = byL D i := by
  refine byte_ext (byL_lt _ _) (byL_lt _ _) fun k hk => ?_
  rw [byL_bit _ _ _ hk, byL_bit _ _ _ hk, on_append, on_one, decide_eq_false (by omega), Bool.or_false]
theorem byL_sub (D E : List Nat) (i : Nat) (h : ∀ k, k ∈ D → k ∈ E) : byL D i &&& byL E i = byL D i := by
  refine byte_ext (and_lt8 (byL_lt _ _)) (byL_lt _ _) fun k hk => ?_
  rw [Nat.testBit_and, byL_bit _ _ _ hk, byL_bit _ _ _ hk]
  unfold on
  by_cases hD : 8 * i + k ∈ D
  · rw [decide_eq_true hD, decide_eq_true (h _ hD)]; rfl
  · rw [decide_eq_false hD]; rfl
theorem byL_nil (i : Nat) : byL [] i = 0 := by
  refine byte_ext (byL_lt _ _) (by decide) fun k hk => ?_
  rw [byL_bit _ _ _ hk, Nat.zero_testBit]
  rfl

/-- The bytes of so many, with the bits of D. -/
def bytesL (D : List Nat) (n : Nat) : List UInt8 := (List.range n).map fun i => UInt8.ofNat (byL D i)
theorem bytesL_length (D : List Nat) (n : Nat) : (bytesL D n).length = n := by unfold bytesL; rw [List.length_map, List.length_range]
theorem bytesL_at (D : List Nat) {n i : Nat} (hi : i < n) : ((bytesL D n).getD i 0).toNat = byL D i := by
  unfold bytesL
  rw [List.getD_eq_getElem?_getD, List.getElem?_map, List.getElem?_range hi]
  have := byL_lt D i
  simp [UInt8.toNat_ofNat']
  omega
/-- Bit k of bytes. -/
def bitL (l : List UInt8) (k : Nat) : Bool := ((l.getD (k / 8) 0).toNat).testBit (k % 8)
theorem bitL_bytes (D : List Nat) {n k : Nat} (hk : k < 8 * n) : bitL (bytesL D n) k = on D k := by
  unfold bitL
  rw [bytesL_at D (by omega), byL_bit _ _ _ (Nat.mod_lt _ (by decide))]
  congr 1
  omega
/-- All bits that a hash asks are set. -/
def hasL (l : List UInt8) (p : Int) (h : Nat) : Bool := decide (l = []) || (asksL h p (8 * l.length : Nat)).all (bitL l)
theorem hasL_nil (p : Int) (h : Nat) : hasL [] p h = true := rfl
theorem hasL_pos {l : List UInt8} (hl : 0 < l.length) (p : Int) (h : Nat) : hasL l p h = (asksL h p (8 * l.length : Nat)).all (bitL l) := by
  unfold hasL
  rw [decide_eq_false (by intro e; rw [e] at hl; simp at hl), Bool.false_or]
theorem hasL_yes {l : List UInt8} (hl : 0 < l.length) {p : Int} {h : Nat} (H : ∀ k ∈ asksL h p (8 * l.length : Nat), bitL l k = true) : hasL l p h = true := by
  rw [hasL_pos hl, List.all_eq_true]
  exact H
theorem hasL_no {l : List UInt8} (hl : 0 < l.length) {p : Int} {h k : Nat} (hk : k ∈ asksL h p (8 * l.length : Nat)) (H : bitL l k = false) : hasL l p h = false := by
  rw [hasL_pos hl, List.all_eq_false]
  exact ⟨k, hk, by rw [H]; decide⟩
/-- The bits that hashes ask. -/
def setL (l : List Nat) (p bits : Int) : List Nat := l.flatMap fun h => asksL h p bits
theorem setL_nil (p bits : Int) : setL [] p bits = [] := rfl
theorem setL_snoc (l : List Nat) (h : Nat) (p bits : Int) : setL (l ++ [h]) p bits = setL l p bits ++ asksL h p bits := by unfold setL; simp
theorem setL_mem {l : List Nat} {h k : Nat} {p bits : Int} (hh : h ∈ l) (hk : k ∈ asksL h p bits) : k ∈ setL l p bits := List.mem_flatMap.2 ⟨h, hh, hk⟩
theorem setL_sub {l m : List Nat} {p bits : Int} : ∀ k, k ∈ setL l p bits → k ∈ setL (l ++ m) p bits := fun k hk => by
  obtain ⟨h, hh, hk⟩ := List.mem_flatMap.1 hk
  exact setL_mem (List.mem_append_left _ hh) hk
theorem setL_lt {l : List Nat} {k : Nat} {p bits : Int} (hb : 1 ≤ bits) (hk : k ∈ setL l p bits) : k < bits.toNat := by
  obtain ⟨h, _, hk⟩ := List.mem_flatMap.1 hk
  exact asksL_lt hb hk
/-- So many bits may be made. -/
def mkOk (bits : Int) : Bool := decide (1 ≤ bits ∧ bits ≤ 1000000 ∧ bits % 8 = 0)
/-- What is made of hashes. -/
def makeL (l : List Nat) (p bits : Int) : List UInt8 := if mkOk bits then bytesL (setL l p bits) (bits.toNat / 8) else []
theorem makeL_no {l : List Nat} {p bits : Int} (h : mkOk bits = false) : makeL l p bits = [] := by unfold makeL; rw [h]; rfl
theorem makeL_yes {l : List Nat} {p bits : Int} (h : mkOk bits = true) : makeL l p bits = bytesL (setL l p bits) (bits.toNat / 8) := by unfold makeL; rw [h]; rfl
theorem makeL_length (l : List Nat) (p bits : Int) : (makeL l p bits).length ≤ 125000 := by
  unfold makeL
  split
  · rename_i h
    unfold mkOk at h
    have := of_decide_eq_true h
    rw [bytesL_length]
    omega
  · simp

/-- A byte with a bit turned off. -/
theorem bit_shift {c k : Nat} : (c / 2 ^ k % 2 = 1) ↔ c.testBit k = true := by
  rw [Nat.testBit_eq_decide_div_mod_eq, decide_eq_true_iff]
theorem bit_and {c k : Nat} : (c &&& 2 ^ k = 0) ↔ c.testBit k = false := by
  constructor
  · intro h
    have h2 := congrArg (fun x => x.testBit k) h
    simp only [Nat.testBit_and, Nat.testBit_two_pow_self, Bool.and_true, Nat.zero_testBit] at h2
    exact h2
  · intro h
    apply Nat.eq_of_testBit_eq
    intro j
    rw [Nat.testBit_and, Nat.testBit_two_pow, Nat.zero_testBit]
    by_cases e : k = j
    · subst e
      rw [h]
      rfl
    · rw [decide_eq_false e, Bool.and_false]

/-- Of as many bits as a power of 2 the probes of a hash are each bit once. -/
theorem prb_pow (h : Nat) {e i : Nat} (he : e ≤ 64) : prb h (i : Nat) ((2 ^ e : Nat) : Int) = (h + i * stepH h) % 2 ^ e := by
  have hp : 0 < 2 ^ e := Nat.pow_pos (by decide)
  unfold prb
  rw [if_neg (by omega), Int.toNat_natCast, Int.toNat_natCast]
  exact Nat.mod_mod_of_dvd _ (Nat.pow_dvd_pow 2 he (n := 64))
theorem odd_cancel {s e d : Nat} (hs : s % 2 = 1) (h : 2 ^ e ∣ d * s) : 2 ^ e ∣ d := by
  have hc : Nat.Coprime (2 ^ e) s := by
    apply Nat.Coprime.pow_left
    rw [Nat.coprime_iff_gcd_eq_one]
    have h2 : Nat.gcd 2 s = Nat.gcd (s % 2) 2 := by rw [Nat.gcd_rec]
    rw [h2, hs]
    rfl
  exact hc.dvd_of_dvd_mul_right h
theorem prb_inj {h e i j : Nat} (he : e ≤ 64) (hi : i < 2 ^ e) (hj : j < 2 ^ e) (hij : j < i) : prb h (i : Nat) ((2 ^ e : Nat) : Int) ≠ prb h (j : Nat) ((2 ^ e : Nat) : Int) := by
  intro hE
  rw [prb_pow h he, prb_pow h he] at hE
  have hle : h + j * stepH h ≤ h + i * stepH h := Nat.add_le_add_left (Nat.mul_le_mul_right _ (by omega)) _
  have hd : 2 ^ e ∣ (h + i * stepH h) - (h + j * stepH h) := Nat.dvd_of_mod_eq_zero (Nat.sub_mod_eq_zero_of_mod_eq hE)
  have e1 : (h + i * stepH h) - (h + j * stepH h) = (i - j) * stepH h := by rw [Nat.sub_mul]; omega
  rw [e1] at hd
  have := Nat.le_of_dvd (by omega) (odd_cancel (stepH_odd h) hd)
  omega
theorem prb_round {h e : Nat} (he : e ≤ 64) : prb h ((2 ^ e : Nat) : Int) ((2 ^ e : Nat) : Int) = prb h ((0 : Nat) : Int) ((2 ^ e : Nat) : Int) := by
  rw [prb_pow h he, prb_pow h he, Nat.zero_mul, Nat.add_zero, Nat.add_mul_mod_self_left]
end Go.Proofs.Ytfnppmiapjhjlaa

/- Names of files as plain lists: six digits, told and read. No program. -/
import Derived.Test.YtaphmmbngjblhaaNumsMath
import Derived.Test.YtaphmmbngjblhaaBase
import Derived.Lib.IndexBytes
namespace Go.Proofs.Ytaphmmbngjblhaa
open Go.RowKit
set_option linter.unusedVariables false

theorem dlen (s : ByteArray) : s.data.toList.length = s.size := Array.length_toList
theorem dbs (l : List UInt8) : (bs l).data.toList = l := by simp [bs]
theorem bs_self (s : ByteArray) : bs s.data.toList = s := by
  apply ByteArray.ext
  simp [bs]
/-- The k lowest digits of n, the highest of them first. -/
def de : Nat → Nat → List UInt8
  | 0, _ => []
  | k + 1, n => UInt8.ofNat (48 + n / 10 ^ k % 10) :: de k n
theorem de_length : ∀ k n : Nat, (de k n).length = k
  | 0, _ => rfl
  | k + 1, n => by simp [de, de_length k n]
def isD (c : UInt8) : Bool := decide (48 ≤ c.toNat ∧ c.toNat ≤ 57)
/-- The number of digits. -/
def dv (l : List UInt8) : Nat := l.foldl (fun a c => a * 10 + (c.toNat - 48)) 0
theorem dv_snoc (l : List UInt8) (c : UInt8) : dv (l ++ [c]) = dv l * 10 + (c.toNat - 48) := by simp [dv]
theorem fold_dv : ∀ (l : List UInt8) (a : Nat), l.foldl (fun a c => a * 10 + (c.toNat - 48)) a = a * 10 ^ l.length + dv l
  | [], a => by simp [dv]
  | c :: l, a => by
    have h1 := fold_dv l (a * 10 + (c.toNat - 48))
    have h2 := fold_dv l (0 * 10 + (c.toNat - 48))
    simp only [dv, List.foldl_cons, List.length_cons] at *
    rw [h1, h2, Nat.pow_succ]
    simp only [Nat.add_mul, Nat.zero_mul, Nat.zero_add]
    rw [Nat.mul_assoc, Nat.mul_comm 10]
    omega
theorem dv_cons (c : UInt8) (l : List UInt8) : dv (c :: l) = (c.toNat - 48) * 10 ^ l.length + dv l := by
  have h := fold_dv l (0 * 10 + (c.toNat - 48))
  simp only [dv, List.foldl_cons] at *
  rw [h]; simp
theorem dig_nat (d : Nat) (h : d < 10) : (UInt8.ofNat (48 + d)).toNat = 48 + d := by rw [UInt8.toNat_ofNat']; omega
theorem dv_lt : ∀ {l : List UInt8}, (∀ c ∈ l, isD c = true) → dv l < 10 ^ l.length
  | [], _ => by decide
  | c :: l, h => by
    have h1 := dv_lt (fun x hx => h x (List.mem_cons_of_mem _ hx))
    have hc := h c (List.mem_cons_self ..)
    simp only [isD, decide_eq_true_eq] at hc
    rw [dv_cons, List.length_cons, Nat.pow_succ]
    have : (c.toNat - 48) * 10 ^ l.length ≤ 9 * 10 ^ l.length := Nat.mul_le_mul_right _ (by omega)
    omega
theorem dv_de : ∀ k n : Nat, dv (de k n) = n % 10 ^ k
  | 0, n => by rw [Nat.pow_zero, Nat.mod_one]; rfl
  | k + 1, n => by
    have e : (10 : Nat) ^ (k + 1) = 10 ^ k * 10 := Nat.pow_succ ..
    rw [de, dv_cons, de_length, dv_de k n, dig_nat _ (Nat.mod_lt _ (by decide)), e, Nat.mod_mul, Nat.add_sub_cancel_left, Nat.mul_comm, Nat.add_comm]
theorem de_all : ∀ (k n : Nat) (c : UInt8), c ∈ de k n → isD c = true
  | 0, n, c, h => by cases h
  | k + 1, n, c, h => by
    rw [de] at h
    rcases List.mem_cons.1 h with rfl | h
    · have := Nat.mod_lt (n / 10 ^ k) (show 0 < 10 by decide)
      unfold isD
      rw [dig_nat _ this]
      exact decide_eq_true (by omega)
    · exact de_all k n c h
theorem de_dv : ∀ {l : List UInt8}, (∀ c ∈ l, isD c = true) → de l.length (dv l) = l := by
  intro l hl
  suffices h : ∀ (l : List UInt8) (m : Nat), (∀ c ∈ l, isD c = true) → de l.length (m * 10 ^ l.length + dv l) = l by
    have := h l 0 hl; simpa using this
  intro l
  induction l with
  | nil => intro m _; rfl
  | cons c l ih =>
    intro m hl
    have hd := dv_lt (l := l) (fun x hx => hl x (List.mem_cons_of_mem _ hx))
    have hc := hl c (List.mem_cons_self ..)
    simp only [isD, decide_eq_true_eq] at hc
    have hp : 0 < 10 ^ l.length := Nat.pow_pos (by decide)
    rw [List.length_cons, de, dv_cons]
    have e : m * 10 ^ (l.length + 1) + ((c.toNat - 48) * 10 ^ l.length + dv l) = (m * 10 + (c.toNat - 48)) * 10 ^ l.length + dv l := by
      rw [Nat.pow_succ, Nat.add_mul, Nat.mul_assoc m 10, Nat.mul_comm 10]; omega
    rw [e, ih _ (fun x hx => hl x (List.mem_cons_of_mem _ hx))]
    have e2 : ((m * 10 + (c.toNat - 48)) * 10 ^ l.length + dv l) / 10 ^ l.length = m * 10 + (c.toNat - 48) := by
      rw [Nat.mul_comm, Nat.mul_add_div hp, Nat.div_eq_of_lt hd, Nat.add_zero]
    rw [e2]
    congr 1
    apply UInt8.toNat_inj.1
    rw [show (m * 10 + (c.toNat - 48)) % 10 = c.toNat - 48 by omega, dig_nat _ (by omega)]
    omega
/-- As texts they stand to each other as their numbers do. -/
theorem de_less : ∀ k a b : Nat, Op.bytesLess (de k a) (de k b) = decide (a % 10 ^ k < b % 10 ^ k)
  | 0, a, b => by simp [de, Op.bytesLess, Nat.mod_one]
  | k + 1, a, b => by
    have hk := de_less k a b
    have ha := Nat.mod_lt (a / 10 ^ k) (show 0 < 10 by decide)
    have hb := Nat.mod_lt (b / 10 ^ k) (show 0 < 10 by decide)
    have hp : 0 < 10 ^ k := Nat.pow_pos (by decide)
    have la := Nat.mod_lt a hp
    have lb := Nat.mod_lt b hp
    rw [de, de, Op.bytesLess, hk, Nat.pow_succ, Nat.mod_mul, Nat.mod_mul]
    have da := dig_nat _ ha
    have db := dig_nat _ hb
    generalize a / 10 ^ k % 10 = x at *
    generalize b / 10 ^ k % 10 = y at *
    generalize a % 10 ^ k = p at *
    generalize b % 10 ^ k = q at *
    generalize 10 ^ k = P at *
    rw [Bool.eq_iff_iff]
    simp only [Bool.or_eq_true, Bool.and_eq_true, decide_eq_true_eq, beq_iff_eq]
    rcases Nat.lt_trichotomy x y with h | h | h
    · have h2 : (x + 1) * P ≤ y * P := Nat.mul_le_mul_right _ h
      rw [Nat.add_mul, Nat.mul_comm x, Nat.mul_comm y] at h2
      have hlt : UInt8.ofNat (48 + x) < UInt8.ofNat (48 + y) := UInt8.lt_iff_toNat_lt.2 (by omega)
      simp only [hlt, true_or, true_iff]
      omega
    · subst h
      simp
    · have h2 : (y + 1) * P ≤ x * P := Nat.mul_le_mul_right _ h
      rw [Nat.add_mul, Nat.mul_comm x, Nat.mul_comm y] at h2
      have hlt : ¬ UInt8.ofNat (48 + x) < UInt8.ofNat (48 + y) := fun e => by have := UInt8.lt_iff_toNat_lt.1 e; omega
      have hne : ¬ UInt8.ofNat (48 + x) = UInt8.ofNat (48 + y) := fun e => by have := congrArg UInt8.toNat e; omega
      simp only [hlt, hne, false_and, or_false, false_iff]
      omega

/-- The name of a number's file, of a letter (P10.2). -/
def nmS (c : UInt8) (n : Int) : ByteArray := if 0 ≤ n ∧ n ≤ 999999 then bs (c :: de 6 n.toNat) else ByteArray.empty
theorem nm_no {c : UInt8} {n : Int} (h : ¬ (0 ≤ n ∧ n ≤ 999999)) : nmS c n = ByteArray.empty := by unfold nmS; rw [if_neg h]
theorem nm_yes {c : UInt8} {n : Nat} (h : n ≤ 999999) : nmS c (n : Nat) = bs (c :: de 6 n) := by unfold nmS; rw [if_pos (by omega), Int.toNat_natCast]
def isK (c : UInt8) : Bool := c == 99 || c == 116 || c == 98
/-- What a name says (P10.2). -/
def npOk (s : ByteArray) : Bool := match s.data.toList with
  | [] => false
  | c :: l => decide (l.length = 6) && isK c && l.all isD
def npK (s : ByteArray) : Nat := if npOk s = true then (s.data.toList.headD 0).toNat else 0
def npN (s : ByteArray) : Nat := if npOk s = true then dv s.data.toList.tail else 0
theorem np_no {s : ByteArray} (h : npOk s = false) : npK s = 0 ∧ npN s = 0 := by simp [npK, npN, h]
theorem np_yes {s : ByteArray} (h : npOk s = true) : ∃ c l, s = bs (c :: l) ∧ l.length = 6 ∧ isK c = true ∧ (∀ x ∈ l, isD x = true) ∧ npK s = c.toNat ∧ npN s = dv l := by
  have h' := h
  unfold npOk at h
  cases hs : s.data.toList with
  | nil => rw [hs] at h; cases h
  | cons c l =>
    rw [hs] at h
    simp only [Bool.and_eq_true, decide_eq_true_eq, List.all_eq_true] at h
    refine ⟨c, l, by rw [← hs, bs_self], h.1.1, h.1.2, h.2, ?_, ?_⟩
    · unfold npK; rw [if_pos h', hs]; rfl
    · unfold npN; rw [if_pos h', hs]; rfl
theorem np_of (c : UInt8) (l : List UInt8) (hl : l.length = 6) (hc : isK c = true) (hd : ∀ x ∈ l, isD x = true) : npOk (bs (c :: l)) = true ∧ npK (bs (c :: l)) = c.toNat ∧ npN (bs (c :: l)) = dv l := by
  have h : npOk (bs (c :: l)) = true := by
    unfold npOk
    rw [dbs]
    simp only [Bool.and_eq_true, decide_eq_true_eq, List.all_eq_true]
    exact ⟨⟨hl, hc⟩, hd⟩
  refine ⟨h, ?_, ?_⟩
  · unfold npK; rw [if_pos h, dbs]; rfl
  · unfold npN; rw [if_pos h, dbs]; rfl
theorem np_wrong {s : ByteArray} (h : ∀ c l, s.data.toList = c :: l → ¬ (l.length = 6 ∧ isK c = true ∧ ∀ x ∈ l, isD x = true)) : npOk s = false := by
  cases e : npOk s with
  | false => rfl
  | true =>
    obtain ⟨c, l, hs, h1, h2, h3, _⟩ := np_yes e
    exact absurd ⟨h1, h2, h3⟩ (h c l (by rw [hs, dbs]))
/-- What is told is parsed (P10.3). -/
theorem np_back {c : UInt8} {n : Nat} (hc : isK c = true) (h : n ≤ 999999) : npOk (nmS c (n : Nat)) = true ∧ npK (nmS c (n : Nat)) = c.toNat ∧ npN (nmS c (n : Nat)) = n := by
  rw [nm_yes h]
  obtain ⟨h1, h2, h3⟩ := np_of c (de 6 n) (de_length _ _) hc (fun x hx => de_all _ _ _ hx)
  refine ⟨h1, h2, ?_⟩
  rw [h3, dv_de]
  exact Nat.mod_eq_of_lt (by omega)
/-- What is parsed is told. -/
theorem np_form {s : ByteArray} (h : npOk s = true) : npN s ≤ 999999 ∧ (npK s = 99 ∧ nmS 99 (npN s : Nat) = s ∨ npK s = 116 ∧ nmS 116 (npN s : Nat) = s ∨ npK s = 98 ∧ nmS 98 (npN s : Nat) = s) := by
  obtain ⟨c, l, hs, hl, hc, hd, hk, hn⟩ := np_yes h
  have hlt := dv_lt hd
  rw [hl] at hlt
  have hle : npN s ≤ 999999 := by rw [hn]; omega
  have hde := de_dv hd
  rw [hl] at hde
  have hnm : nmS c (npN s : Nat) = s := by rw [nm_yes hle, hn, hde, hs]
  refine ⟨hle, ?_⟩
  simp only [isK, Bool.or_eq_true, beq_iff_eq] at hc
  rcases hc with (rfl | rfl) | rfl
  · exact Or.inl ⟨hk, hnm⟩
  · exact Or.inr (Or.inl ⟨hk, hnm⟩)
  · exact Or.inr (Or.inr ⟨hk, hnm⟩)
theorem nm_size {c : UInt8} {n : Nat} (h : n ≤ 999999) : (nmS c (n : Nat)).size = 7 := by rw [nm_yes h, bs_size, List.length_cons, de_length]
theorem nm_less (c : UInt8) {m n : Nat} (hm : m ≤ 999999) (hn : n ≤ 999999) : Op.bytesLess (nmS c (m : Nat)).toList (nmS c (n : Nat)).toList = decide ((m : Int) < (n : Int)) := by
  rw [nm_yes hm, nm_yes hn, Lib.toList_data, Lib.toList_data, dbs, dbs, Op.bytesLess, de_less, Nat.mod_eq_of_lt (show m < 10 ^ 6 by omega), Nat.mod_eq_of_lt (show n < 10 ^ 6 by omega)]
  have : ¬ c < c := fun h => by have := UInt8.lt_iff_toNat_lt.1 h; omega
  rw [Bool.eq_iff_iff]
  simp [this]
theorem nm_eq (c : UInt8) {m n : Nat} (hm : m ≤ 999999) (hn : n ≤ 999999) : ((nmS c (m : Nat)).toList == (nmS c (n : Nat)).toList) = ((m : Int) == (n : Int)) := by
  rw [Bool.eq_iff_iff, beq_iff_eq, beq_iff_eq]
  constructor
  · intro h
    rw [Lib.toList_data, Lib.toList_data, nm_yes hm, nm_yes hn, dbs, dbs] at h
    have h2 := congrArg (fun l => dv l.tail) h
    simp only [List.tail_cons, dv_de] at h2
    omega
  · intro h
    have : m = n := by omega
    rw [this]
end Go.Proofs.Ytaphmmbngjblhaa

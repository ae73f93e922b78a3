/- SealOne, OpenOne, Sealed, PgMath -/
import Derived.Test.YtmbhafabphogdaaGreatRk03
import Derived.Deep.RegionHeld3
import Derived.Lib.IndexBytes
import Derived.Test.YtmbhafabphogdaaGreatRk02
/- SealOne -/
namespace Go.Proofs.YtmbhafabphogdaaGreat
open Go.RowKit
set_option linter.unusedVariables false

theorem and_split (i a b c d : Nat) (hb : b < 2 ^ i) (hd : d < 2 ^ i) : (2 ^ i * a + b) &&& (2 ^ i * c + d) = 2 ^ i * (a &&& c) + (b &&& d) := by
  apply Nat.eq_of_testBit_eq
  intro j
  rw [Nat.testBit_and, Nat.testBit_two_pow_mul_add a hb, Nat.testBit_two_pow_mul_add c hd, Nat.testBit_two_pow_mul_add (a &&& c) (Nat.and_lt_two_pow b hd)]
  split <;> rw [Nat.testBit_and]
theorem or_split (i a b c d : Nat) (hb : b < 2 ^ i) (hd : d < 2 ^ i) : (2 ^ i * a + b) ||| (2 ^ i * c + d) = 2 ^ i * (a ||| c) + (b ||| d) := by
  apply Nat.eq_of_testBit_eq
  intro j
  rw [Nat.testBit_or, Nat.testBit_two_pow_mul_add a hb, Nat.testBit_two_pow_mul_add c hd, Nat.testBit_two_pow_mul_add (a ||| c) (Nat.or_lt_two_pow hb hd)]
  split <;> rw [Nat.testBit_or]
theorem mask_ff (x : Nat) : x &&& 16711935 = 65536 * (x / 65536 % 256) + x % 256 := by
  have h := and_split 16 (x / 65536) (x % 65536) 255 255 (Nat.mod_lt _ (by decide)) (by decide)
  have e1 : (2 : Nat) ^ 16 * (x / 65536) + x % 65536 = x := by omega
  have e2 : (2 : Nat) ^ 16 * 255 + 255 = 16711935 := by decide
  rw [e1, e2, nat_mask8, nat_mask8] at h
  rw [h]
  omega
theorem or_pair (a b : Nat) (hb : b < 256) : b ||| (256 * a) = 256 * a + b := by
  rw [Nat.or_comm]
  exact nat_join 8 (256 * a) b (by omega) (by omega)

/-- A number of four bytes, turned about. -/
def revN (n : Nat) : Nat := 16777216 * (n % 256) + 65536 * (n / 256 % 256) + 256 * (n / 65536 % 256) + n / 16777216 % 256
theorem revN_lt (n : Nat) : revN n < 4294967296 := by unfold revN; omega
theorem be_rev (n : Nat) (hn : n < 4294967296) : be 4 (revN n) = (be 4 n).reverse := by
  have e : un (be 4 n).reverse = revN n := by
    have p1 : (256 : Nat) ^ 1 = 256 := by decide
    have p2 : (256 : Nat) ^ 2 = 65536 := by decide
    have p3 : (256 : Nat) ^ 3 = 16777216 := by decide
    simp only [p1, p2, p3, Nat.pow_zero, Nat.div_one, be, List.reverse_cons, List.reverse_nil, List.nil_append, List.cons_append, un, List.foldl_cons, List.foldl_nil, UInt8.toNat_ofNat']
    unfold revN
    omega
  have h := be_un (be 4 n).reverse
  rw [List.length_reverse, be_length, e] at h
  exact h

theorem rev_one (n : Nat) (hn : n < 4294967296) : bits .or .u32 (bits .and .u32 ((n : Int) / 256) 16711935) (bits .and .u32 (n : Int) 16711935 * 256 % 4294967296) =
    ((16777216 * (n / 65536 % 256) + 65536 * (n / 16777216 % 256) + 256 * (n % 256) + n / 256 % 256 : Nat) : Int) := by
  have h0 : (n : Int) / 256 = ((n / 256 : Nat) : Int) := by omega
  have h1 : bits .and .u32 ((n / 256 : Nat) : Int) 16711935 = ((n / 256 &&& 16711935 : Nat) : Int) := u32_and_nat _ _ (by omega) (by decide)
  have h2 : bits .and .u32 (n : Int) 16711935 = ((n &&& 16711935 : Nat) : Int) := u32_and_nat _ _ hn (by decide)
  rw [h0, h1, h2, mask_ff, mask_ff]
  have e3 : n / 256 / 65536 % 256 = n / 16777216 % 256 := by omega
  have e4 : n % 256 < 256 := Nat.mod_lt _ (by decide)
  have e5 : n / 256 % 256 < 256 := Nat.mod_lt _ (by decide)
  have e6 : n / 65536 % 256 < 256 := Nat.mod_lt _ (by decide)
  have e7 : n / 16777216 % 256 < 256 := Nat.mod_lt _ (by decide)
  rw [e3]
  generalize n % 256 = a at *
  generalize n / 256 % 256 = b at *
  generalize n / 65536 % 256 = c at *
  generalize n / 16777216 % 256 = d at *
  have h3 : ((65536 * c + a : Nat) : Int) * 256 % 4294967296 = ((65536 * (256 * c) + 256 * a : Nat) : Int) := by omega
  rw [h3]
  have h4 := u32_or_nat (65536 * d + b) (65536 * (256 * c) + 256 * a) (by omega) (by omega)
  rw [h4]
  have h5 := or_split 16 d b (256 * c) (256 * a) (by omega) (by omega)
  rw [or_pair c d (by omega), or_pair a b (by omega)] at h5
  have e8 : (2 : Nat) ^ 16 = 65536 := by decide
  rw [e8] at h5
  rw [h5]
  omega
theorem rev_two (m : Nat) (hm : m < 4294967296) : bits .or .u32 ((m : Int) / 65536) ((m : Int) * 65536 % 4294967296) = ((m % 65536 * 65536 + m / 65536 : Nat) : Int) := by
  have h0 : (m : Int) / 65536 = ((m / 65536 : Nat) : Int) := by omega
  have h1 : (m : Int) * 65536 % 4294967296 = ((m % 65536 * 65536 : Nat) : Int) := by omega
  rw [h0, h1, u32_or_nat _ _ (by omega) (by omega), Nat.or_comm]
  rw [nat_join 16 _ _ (by omega) (by omega)]

set_option maxHeartbeats 400000 in
theorem rev_any (n : Nat) (w : World) (hn : n < 4294967296) :
    Calls Tryz.prog 111 #[.int .u32 (n : Nat)] w fun e w' => e = .returned (.int .u32 (revN n : Nat)) ∧ w = w' := by
  have h1 := Lib.hid (rev_one n hn)
  go_enter Tryz.func111, Tryz.ntmps111
  go_wp2
  go_ret
  refine ⟨ret_int ?_, rfl⟩
  rw [h1.out, rev_two _ (by omega)]
  unfold revN
  omega

theorem put_four (n : Nat) (w : World) (hn : n < 4294967296) :
    Calls Tryz.prog 70 #[.int .u64 (revN n : Nat), .int .i64 4] w fun e w' => e = .returned (.string (bs (be 4 n).reverse)) ∧ Below w.heap.size w w' := by
  rw [← be_rev n hn]
  exact put_some (revN n) 4 w (by omega) (by omega) (by have := revN_lt n; omega)

set_option maxHeartbeats 400000 in
theorem tail_any (s : ByteArray) (w : World) (hs : s.size ≤ maxLen) :
    Calls Tryz.prog 88 #[.string s] w fun e w' => e = .returned (.string (bs (tailS s.data.toList))) ∧ Below w.heap.size w w' := by
  have h1 := Lib.hid (fun w => sum_any s w hs)
  have hl := sumS_lt s.data.toList
  unfold tailS
  generalize sumS s.data.toList = n at *
  have h2 := Lib.hid (fun w => rev_any n w hl)
  have h3 := Lib.hid (fun w => put_four n w hl)
  have hr := revN_lt n
  generalize revN n = m at *
  generalize bs (be 4 n).reverse = t at *
  unfold maxLen at hs
  go_enter Tryz.func88, Tryz.ntmps88
  go_wp2_with fail
  refine (h1.out _).mono ?_
  rintro e w' ⟨rfl, rfl⟩
  go_wp2_with fail
  refine (h2.out _).mono ?_
  rintro e w' ⟨rfl, rfl⟩
  go_wp2_with fail
  refine (h3.out _).mono ?_
  rintro e w' ⟨rfl, hb⟩
  go_wp2
  go_ret
  exact ⟨rfl, hb⟩

/-- A text, sealed (P2.2). -/
def sealS (s : ByteArray) : ByteArray := s ++ bs (tailS s.data.toList)

theorem add_four (s : ByteArray) (h : s.size + 4 ≤ maxLen) (l : List UInt8) (hl : l.length = 4) (w : World) : (Op.stringOp .add s (bs l)).run Tryz.prog w = .ok (.string (s ++ bs l)) w :=
  run_string_add_sum (P := Tryz.prog) (w := w) s (bs l) (by rw [bs_size, hl]; exact h)

set_option maxHeartbeats 400000 in
theorem seal_any (s : ByteArray) (w : World) (hs : s.size + 4 ≤ maxLen) :
    Calls Tryz.prog 72 #[.string s] w fun e w' => e = .returned (.string (sealS s)) ∧ Below w.heap.size w w' := by
  have h1 := Lib.hid (fun w => tail_any s w (by omega))
  have ha := add_four s hs _ (tailS_length s.data.toList)
  unfold sealS
  generalize tailS s.data.toList = t at *
  unfold maxLen at hs
  go_enter Tryz.func72, Tryz.ntmps72
  go_wp2_with fail
  refine (h1.out _).mono ?_
  rintro e w' ⟨rfl, hb⟩
  go_wp2
  go_ret
  exact ⟨rfl, hb⟩
end Go.Proofs.YtmbhafabphogdaaGreat

/- OpenOne -/
namespace Go.Proofs.YtmbhafabphogdaaGreat
open Go.RowKit
set_option linter.unusedVariables false

/-- Is a text sealed (P2.2)? -/
def opOk (s : ByteArray) : Bool := decide (4 ≤ s.size ∧ s.extract (s.size - 4) s.size = bs (tailS (s.extract 0 (s.size - 4)).data.toList))
/-- The text that is sealed (P2.2). -/
def opA (s : ByteArray) : ByteArray := if opOk s = true then s.extract 0 (s.size - 4) else ByteArray.empty

theorem list_eq {a b : ByteArray} (h : a = b) : (a.toList == b.toList) = true := by rw [h, beq_iff_eq]
theorem list_ne {a b : ByteArray} (h : ¬ a = b) : (a.toList == b.toList) = false := by
  rw [beq_eq_false_iff_ne]
  intro x
  rw [Lib.toList_data, Lib.toList_data] at x
  exact h (ByteArray.ext (Array.toList_inj.1 x))

set_option maxHeartbeats 400000 in
theorem open_at (s : ByteArray) (w : World) (hs : s.size ≤ maxLen) (h4 : 4 ≤ s.size) (T : ByteArray)
    (ht : ∀ W, Below w.heap.size w W → Calls Tryz.prog 88 #[.string (s.extract 0 (s.size - 4))] W fun e w' => e = .returned (.string T) ∧ Below w.heap.size w w') :
    Calls Tryz.prog 57 #[.string s] w fun e w' => e = .returned (.tuple #[.string (if s.extract (s.size - 4) s.size = T then s.extract 0 (s.size - 4) else ByteArray.empty), .bool (decide (s.extract (s.size - 4) s.size = T))]) ∧ Below w.heap.size w w' := by
  have Ht := Lib.hid ht
  clear ht
  unfold maxLen at hs
  have d1 : decide ((s.size : Int) - 4 < 0) = false := by simp; omega
  have x1 : (0 : Int) ≤ (s.size : Int) - 4 := by omega
  have x4 : (4 : Int) ≤ (s.size : Int) := by omega
  have x2 : (s.size : Int) - 4 ≤ s.size := by omega
  have x3 : ((s.size : Int) - 4).toNat = s.size - 4 := by omega
  by_cases hT : s.extract (s.size - 4) s.size = T
  · have he := list_eq hT.symm
    rw [if_pos hT, decide_eq_true hT]
    have HT := Lib.hid hT
    clear hT
    go_enter Tryz.func57, Tryz.ntmps57
    go_wp2_with fail
    go_region_held3 (fun w' => Below w.heap.size w w') (first | assumption | exact (Below.refl _ _).drew) ((go_at_call 88; refine (Ht.out _ (by assumption)).mono ?_; rintro e w' ⟨rfl, hb⟩))
    go_wp2
    go_ret2
    exact ⟨rfl, ‹Below _ _ _›⟩
  · have he := list_ne (fun h : T = s.extract (s.size - 4) s.size => hT h.symm)
    rw [if_neg hT, decide_eq_false hT]
    have HT := Lib.hid hT
    clear hT
    go_enter Tryz.func57, Tryz.ntmps57
    go_wp2_with fail
    go_region_held3 (fun w' => Below w.heap.size w w') (first | assumption | exact (Below.refl _ _).drew) ((go_at_call 88; refine (Ht.out _ (by assumption)).mono ?_; rintro e w' ⟨rfl, hb⟩))
    go_wp2
    go_ret2
    exact ⟨rfl, ‹Below _ _ _›⟩

theorem open_any (s : ByteArray) (w : World) (hs : s.size ≤ maxLen) :
    Calls Tryz.prog 57 #[.string s] w fun e w' => e = .returned (.tuple #[.string (opA s), .bool (opOk s)]) ∧ Below w.heap.size w w' := by
  by_cases h4 : 4 ≤ s.size
  · have h := open_at s w hs h4 (bs (tailS (s.extract 0 (s.size - 4)).data.toList)) (fun W hW => (tail_any _ W (by unfold maxLen at *; rw [ByteArray.size_extract]; omega)).mono fun e w' ⟨he, hb⟩ => ⟨he, hW.trans (hb.mono hW.size)⟩)
    have e1 : opOk s = decide (s.extract (s.size - 4) s.size = bs (tailS (s.extract 0 (s.size - 4)).data.toList)) := by simp [opOk, h4]
    have e2 : opA s = if s.extract (s.size - 4) s.size = bs (tailS (s.extract 0 (s.size - 4)).data.toList) then s.extract 0 (s.size - 4) else ByteArray.empty := by
      unfold opA
      rw [e1]
      simp
    rw [e1, e2]
    exact h
  · have e1 : opOk s = false := by simp [opOk, h4]
    have e2 : opA s = ByteArray.empty := by simp [opA, e1]
    rw [e1, e2]
    clear e1 e2
    unfold maxLen at hs
    have d1 : decide ((s.size : Int) - 4 < 0) = true := by simp; omega
    go_enter Tryz.func57, Tryz.ntmps57
    go_wp2_with fail
    go_quiet (fail)
    go_wp2
    go_ret2
    exact ⟨rfl, below_drewN (Below.refl _ _) _⟩
end Go.Proofs.YtmbhafabphogdaaGreat

/- Sealed -/
namespace Go.Proofs.YtmbhafabphogdaaGreat
set_option linter.unusedVariables false

theorem sl_list (l : List UInt8) : (bs l).data.toList = l := by simp [bs]
theorem sl_size (s : ByteArray) : s.data.toList.length = s.size := Array.length_toList
theorem sl_append (a b : ByteArray) : (a ++ b).data.toList = a.data.toList ++ b.data.toList := by simp
/-- A part of a text, as a list. -/
theorem sl_ext (s : ByteArray) (a b : Nat) : (s.extract a b).data.toList = (s.data.toList.drop a).take (b - a) := by simp
theorem sl_extbs (s : ByteArray) (a b : Nat) : s.extract a b = bs ((s.data.toList.drop a).take (b - a)) := by rw [← sl_ext, bs_data]

theorem seal_list (s : ByteArray) : (sealS s).data.toList = s.data.toList ++ tailS s.data.toList := by simp [sealS, bs]
theorem seal_size (s : ByteArray) : (sealS s).size = s.size + 4 := by rw [← sl_size, seal_list, List.length_append, tailS_length, sl_size]
/-- What is sealed is sealed. -/
theorem opOk_seal (s : ByteArray) : opOk (sealS s) = true := by
  unfold opOk
  refine decide_eq_true ⟨by rw [seal_size]; omega, ?_⟩
  have e1 : (sealS s).extract 0 ((sealS s).size - 4) = s := by
    rw [sl_extbs, seal_size, seal_list]
    have : s.data.toList.length = s.size := sl_size s
    rw [List.drop_zero, show s.size + 4 - 4 - 0 = s.data.toList.length by omega, List.take_left, bs_data]
  rw [e1, sl_extbs, seal_size, seal_list]
  have : s.data.toList.length = s.size := sl_size s
  rw [show s.size + 4 - 4 = s.data.toList.length by omega, List.drop_left, List.take_of_length_le (by rw [tailS_length]; omega)]
/-- The state behind what is sealed. -/
theorem sealed_fold {s : ByteArray} (h : opOk s = true) : foldS 4294967295 s.data.toList = stk 32 4294967295 := by
  obtain ⟨h4, h5⟩ := of_decide_eq_true h
  have hl := sl_size s
  have h6 := congrArg (fun s : ByteArray => s.data.toList) h5
  simp only [sl_ext, sl_list] at h6
  rw [List.drop_zero, List.take_of_length_le (by rw [List.length_drop]; omega)] at h6
  have h7 := (sealed_iff (s.data.toList.take (s.size - 4 - 0)) (s.data.toList.drop (s.size - 4)) (by rw [List.length_drop]; omega)).1 h6
  rw [Nat.sub_zero, List.take_append_drop] at h7
  exact h7
/-- Sealed texts that differ within four places, side by side, alone, are the same. -/
theorem sealed_near {s t : ByteArray} (hs : opOk s = true) (ht : opOk t = true) (k : Nat) (hl : s.size = t.size) (ho : ∀ j, j < k ∨ k + 4 ≤ j → s.data.toList[j]? = t.data.toList[j]?) : s = t := by
  have h := window (x := 4294967295) (by decide) s.data.toList t.data.toList k (by rw [sl_size, sl_size, hl]) ho (by rw [sealed_fold hs, sealed_fold ht])
  rw [← bs_data s, h, bs_data]
end Go.Proofs.YtmbhafabphogdaaGreat

/- PgMath -/
namespace Go.Proofs.YtmbhafabphogdaaGreat
set_option linter.unusedVariables false

/-- There may be such a filter. -/
def pgOk (n p : Int) : Bool := decide (60 ≤ n ∧ n ≤ 120000 ∧ n % 60 = 0 ∧ 1 ≤ p ∧ p ≤ 16)
theorem pgOk_iff {n p : Int} : pgOk n p = true ↔ 60 ≤ n ∧ n ≤ 120000 ∧ n % 60 = 0 ∧ 1 ≤ p ∧ p ≤ 16 := by unfold pgOk; exact decide_eq_true_iff
/-- A head's bytes, ahead of its sum. -/
def hdL (n p : Nat) : List UInt8 := [98, 108, 109, UInt8.ofNat p] ++ (be 4 n ++ List.replicate 52 0)
theorem hdL_length (n p : Nat) : (hdL n p).length = 60 := by simp [hdL, be_length]
/-- A head page. -/
def hdP (n p : Nat) : ByteArray := sealS (bs (hdL n p))
theorem hdP_size (n p : Nat) : (hdP n p).size = 64 := by unfold hdP; rw [seal_size, bs_size, hdL_length]
theorem hdP_list (n p : Nat) : (hdP n p).data.toList = hdL n p ++ tailS (hdL n p) := by unfold hdP; rw [seal_list, sl_list]

/-- The page j of a file; the head page is 0. -/
def pgT (t : ByteArray) (j : Nat) : ByteArray := t.extract (64 * j) (64 * j + 64)
/-- It is there, and sealed. -/
def pgW (t : ByteArray) (j : Nat) : Bool := decide (64 * j + 64 ≤ t.size) && opOk (pgT t j)
theorem pgT_list (t : ByteArray) (j : Nat) : (pgT t j).data.toList = (t.data.toList.drop (64 * j)).take 64 := by unfold pgT; rw [sl_ext, show 64 * j + 64 - 64 * j = 64 by omega]
theorem pgT_at (t : ByteArray) (j i : Nat) (hi : i < 64) : (pgT t j).data.toList[i]? = t.data.toList[64 * j + i]? := by rw [pgT_list, List.getElem?_take, if_pos hi, List.getElem?_drop]
theorem pgT_size {t : ByteArray} {j : Nat} (h : 64 * j + 64 ≤ t.size) : (pgT t j).size = 64 := by unfold pgT; rw [ByteArray.size_extract]; omega
theorem pgW_iff {t : ByteArray} {j : Nat} : pgW t j = true ↔ 64 * j + 64 ≤ t.size ∧ opOk (pgT t j) = true := by unfold pgW; rw [Bool.and_eq_true, decide_eq_true_iff]

/-- What the head page says. -/
def hpT (t : ByteArray) : Nat := (t.data.toList.getD 3 0).toNat
def hnT (t : ByteArray) : Nat := getS (t.extract 4 8)
def hdOk (t : ByteArray) : Bool := decide (64 ≤ t.size) && (pgOk (hnT t) (hpT t) && decide (t.extract 0 64 = hdP (hnT t) (hpT t)))
theorem hdOk_iff {t : ByteArray} : hdOk t = true ↔ 64 ≤ t.size ∧ pgOk (hnT t) (hpT t) = true ∧ t.extract 0 64 = hdP (hnT t) (hpT t) := by unfold hdOk; rw [Bool.and_eq_true, Bool.and_eq_true, decide_eq_true_iff, decide_eq_true_iff]
theorem hdOk_short {t : ByteArray} (h : t.size < 64) : hdOk t = false := by
  unfold hdOk
  rw [decide_eq_false (by omega), Bool.false_and]
theorem hdOk_not {t : ByteArray} (h : pgOk (hnT t) (hpT t) = false) : hdOk t = false := by
  unfold hdOk
  rw [h, Bool.false_and, Bool.and_false]
theorem hdOk_other {t : ByteArray} (h : ¬ t.extract 0 64 = hdP (hnT t) (hpT t)) : hdOk t = false := by
  unfold hdOk
  rw [decide_eq_false h, Bool.and_false, Bool.and_false]
/-- The byte in which the bit k stands, and the bit. -/
def byT (t : ByteArray) (k : Nat) : UInt8 := t.data.toList.getD (64 * (k / 480 + 1) + k / 8 % 60) 0
def bitT (t : ByteArray) (k : Nat) : Bool := (byT t k).toNat.testBit (k % 8)
/-- It is surely off. -/
def offT (t : ByteArray) (k : Nat) : Bool := pgW t (k / 480 + 1) && !bitT t k
/-- What a file says of a hash (P15.2). -/
def mayT (t : ByteArray) (h : Nat) : Bool := !hdOk t || (asksL h (hpT t) ((8 * hnT t : Nat) : Int)).all fun k => !offT t k
theorem mayT_no {t : ByteArray} (h : hdOk t = false) (g : Nat) : mayT t g = true := by unfold mayT; rw [h]; rfl
theorem mayT_yes {t : ByteArray} (h : hdOk t = true) (g : Nat) : mayT t g = (asksL g (hpT t) ((8 * hnT t : Nat) : Int)).all fun k => !offT t k := by unfold mayT; rw [h]; rfl
theorem mayT_all {t : ByteArray} {g : Nat} (H : ∀ k ∈ asksL g (hpT t) ((8 * hnT t : Nat) : Int), offT t k = false) : mayT t g = true := by
  unfold mayT
  rw [Bool.or_eq_true, List.all_eq_true]
  exact Or.inr fun k hk => by rw [H k hk]; rfl
theorem mayT_one {t : ByteArray} {g k : Nat} (h : hdOk t = true) (hk : k ∈ asksL g (hpT t) ((8 * hnT t : Nat) : Int)) (H : offT t k = true) : mayT t g = false := by
  rw [mayT_yes h, List.all_eq_false]
  exact ⟨k, hk, by rw [H]; decide⟩

/-- The first so many pages of an array, sealed. -/
def pgs (a : ByteArray) : Nat → ByteArray
  | 0 => ByteArray.empty
  | k + 1 => pgs a k ++ sealS (a.extract (60 * k) (60 * k + 60))
theorem pgs_succ (a : ByteArray) (k : Nat) : pgs a (k + 1) = pgs a k ++ sealS (a.extract (60 * k) (60 * k + 60)) := rfl
theorem pgs_size (a : ByteArray) : ∀ k, 60 * k ≤ a.size → (pgs a k).size = 64 * k
  | 0, _ => rfl
  | k + 1, h => by rw [pgs_succ, ByteArray.size_append, pgs_size a k (by omega), seal_size, ByteArray.size_extract]; omega
/-- A filter's file (P15.1). -/
def putP (a : ByteArray) (p : Int) : ByteArray := if pgOk a.size p then hdP a.size p.toNat ++ pgs a (a.size / 60) else ByteArray.empty
theorem putP_no {a : ByteArray} {p : Int} (h : pgOk a.size p = false) : putP a p = ByteArray.empty := by unfold putP; rw [h]; rfl
theorem putP_yes {a : ByteArray} {p : Int} (h : pgOk a.size p = true) : putP a p = hdP a.size p.toNat ++ pgs a (a.size / 60) := by unfold putP; rw [h]; rfl
theorem putP_size {a : ByteArray} {p : Int} (h : pgOk a.size p = true) : (putP a p).size = 64 * (a.size / 60 + 1) := by
  rw [putP_yes h, ByteArray.size_append, hdP_size, pgs_size a _ (by omega)]; omega

/-- The page j of an array stands where it is to. -/
theorem pgs_at (a : ByteArray) (i : Nat) : ∀ k j, j < k → 60 * k ≤ a.size → i < 64 → (pgs a k).data.toList[64 * j + i]? = (sealS (a.extract (60 * j) (60 * j + 60))).data.toList[i]?
  | 0, j, h, _, _ => by omega
  | k + 1, j, h, ha, hi => by
    have hz := pgs_size a k (by omega)
    rw [pgs_succ, sl_append]
    by_cases hj : j < k
    · rw [List.getElem?_append_left (by rw [sl_size, hz]; omega)]
      exact pgs_at a i k j hj (by omega) hi
    · obtain rfl : j = k := by omega
      rw [List.getElem?_append_right (by rw [sl_size, hz]; omega), sl_size, hz, Nat.add_sub_cancel_left]
theorem pgT_put {a : ByteArray} {p : Int} (h : pgOk a.size p = true) {j : Nat} (hj : j < a.size / 60) : pgT (putP a p) (j + 1) = sealS (a.extract (60 * j) (60 * j + 60)) := by
  have hz := putP_size h
  have hs : (pgT (putP a p) (j + 1)).size = 64 := pgT_size (by omega)
  have he : (sealS (a.extract (60 * j) (60 * j + 60))).size = 64 := by rw [seal_size, ByteArray.size_extract]; omega
  suffices hL : (pgT (putP a p) (j + 1)).data.toList = (sealS (a.extract (60 * j) (60 * j + 60))).data.toList by rw [← bs_data (pgT _ _), hL, bs_data]
  apply List.ext_getElem?
  intro i
  by_cases hi : i < 64
  · rw [pgT_at _ _ _ hi, putP_yes h, sl_append, List.getElem?_append_right (by rw [sl_size, hdP_size]; omega), sl_size, hdP_size, show 64 * (j + 1) + i - 64 = 64 * j + i by omega]
    exact pgs_at a i _ j hj (by omega) hi
  · rw [List.getElem?_eq_none (by rw [sl_size, hs]; omega), List.getElem?_eq_none (by rw [sl_size, he]; omega)]
theorem pgT_put0 {a : ByteArray} {p : Int} (h : pgOk a.size p = true) : pgT (putP a p) 0 = hdP a.size p.toNat := by
  have hz := putP_size h
  unfold pgT
  rw [sl_extbs, putP_yes h, sl_append, show 64 * 0 + 64 - 64 * 0 = (hdP a.size p.toNat).data.toList.length by rw [sl_size, hdP_size], Nat.mul_zero, List.drop_zero, List.take_left, bs_data]
/-- Each page of a file that was made is whole. -/
theorem pgW_put {a : ByteArray} {p : Int} (h : pgOk a.size p = true) {j : Nat} (hj : j < a.size / 60 + 1) : pgW (putP a p) j = true := by
  refine pgW_iff.2 ⟨by rw [putP_size h]; omega, ?_⟩
  match j, hj with
  | 0, _ => rw [pgT_put0 h]; exact opOk_seal _
  | j + 1, hj => rw [pgT_put h (by omega)]; exact opOk_seal _

/-- A head page tells how many probes and bytes there are. -/
theorem head_tells {t : ByteArray} {n p : Nat} (h : t.extract 0 64 = hdP n p) (hn : n < 4294967296) (hp : p < 256) : hpT t = p ∧ hnT t = n := by
  have h1 : ∀ i, i < 64 → t.data.toList[i]? = (hdP n p).data.toList[i]? := fun i hi => by
    have := congrArg (fun s : ByteArray => s.data.toList[i]?) h
    simp only [sl_ext] at this
    rw [List.getElem?_take, if_pos (by omega), List.getElem?_drop, Nat.zero_add] at this
    exact this
  have hL : (hdP n p).data.toList = [98, 108, 109, UInt8.ofNat p] ++ (be 4 n ++ (List.replicate 52 0 ++ tailS (hdL n p))) := by rw [hdP_list]; simp [hdL]
  constructor
  · unfold hpT
    rw [List.getD_eq_getElem?_getD, h1 3 (by omega), hL]
    show (UInt8.ofNat p).toNat = p
    rw [UInt8.toNat_ofNat']
    exact Nat.mod_eq_of_lt hp
  · unfold hnT getS
    have e : (t.extract 4 8).data.toList = be 4 n := by
      apply List.ext_getElem?
      intro i
      rw [sl_ext, List.getElem?_take]
      split
      · rename_i hi
        rw [List.getElem?_drop, h1 _ (by omega), hL, List.getElem?_append_right (by simp), List.getElem?_append_left (by rw [be_length]; simp; omega)]
        simp
      · rw [List.getElem?_eq_none (by rw [be_length]; omega)]
    rw [e, List.take_of_length_le (by rw [be_length]; omega), un_be]
    exact Nat.mod_eq_of_lt hn
theorem hdOk_put {a : ByteArray} {p : Int} (h : pgOk a.size p = true) : hdOk (putP a p) = true ∧ hpT (putP a p) = p.toNat ∧ hnT (putP a p) = a.size := by
  have h0 := pgT_put0 h
  unfold pgT at h0
  obtain ⟨g1, g2, g3, g4, g5⟩ := pgOk_iff.1 h
  obtain ⟨e1, e2⟩ := head_tells h0 (by omega) (by omega)
  refine ⟨hdOk_iff.2 ⟨by rw [putP_size h]; omega, ?_, ?_⟩, e1, e2⟩
  · rw [e1, e2, Int.toNat_of_nonneg (by omega)]
    exact h
  · rw [e1, e2]
    exact h0
theorem byT_put {a : ByteArray} {p : Int} (h : pgOk a.size p = true) {k : Nat} (hk : k < 8 * a.size) : byT (putP a p) k = a.data.toList.getD (k / 8) 0 := by
  obtain ⟨g1, g2, g3, g4, g5⟩ := pgOk_iff.1 h
  have hj : k / 480 < a.size / 60 := by omega
  have hi : k / 8 % 60 < 60 := Nat.mod_lt _ (by decide)
  have hT : (pgT (putP a p) (k / 480 + 1)).data.toList[k / 8 % 60]? = (sealS (a.extract (60 * (k / 480)) (60 * (k / 480) + 60))).data.toList[k / 8 % 60]? := by rw [pgT_put h hj]
  rw [pgT_at _ _ _ (by omega), seal_list, List.getElem?_append_left (by rw [sl_size, ByteArray.size_extract]; omega), sl_ext, List.getElem?_take, if_pos (by omega), List.getElem?_drop] at hT
  unfold byT
  rw [List.getD_eq_getElem?_getD, hT, List.getD_eq_getElem?_getD, show 60 * (k / 480) + k / 8 % 60 = k / 8 by omega]
theorem bitT_put {a : ByteArray} {p : Int} (h : pgOk a.size p = true) {k : Nat} (hk : k < 8 * a.size) : bitT (putP a p) k = bitL a.data.toList k := by unfold bitT bitL; rw [byT_put h hk]
/-- Of a file as it was made May says what the bits say. -/
theorem mayT_put {a : ByteArray} {p : Int} (h : pgOk a.size p = true) (g : Nat) : mayT (putP a p) g = hasL a.data.toList p g := by
  obtain ⟨g1, g2, g3, g4, g5⟩ := pgOk_iff.1 h
  obtain ⟨e0, e1, e2⟩ := hdOk_put h
  rw [mayT_yes e0, hasL_pos (by rw [sl_size]; omega), e1, e2, sl_size, Int.toNat_of_nonneg (by omega)]
  have hm : ∀ k ∈ asksL g p ((8 * a.size : Nat) : Int), (!offT (putP a p) k) = bitL a.data.toList k := fun k hk => by
    have hlt : k < 8 * a.size := by have := asksL_lt (by omega) hk; omega
    unfold offT
    rw [pgW_put h (by omega), bitT_put h hlt, Bool.true_and, Bool.not_not]
  rw [Bool.eq_iff_iff, List.all_eq_true, List.all_eq_true]
  exact ⟨fun H k hk => by rw [← hm k hk]; exact H k hk, fun H k hk => by rw [hm k hk]; exact H k hk⟩
theorem make_size (l : List Nat) (p : Int) (n : Nat) (h0 : 0 < n) (hn : n ≤ 125000) : (bs (makeL l p ((8 * n : Nat) : Int))).size = n := by
  rw [bs_size, makeL_yes (by unfold mkOk; exact decide_eq_true (by omega)), bytesL_length]
  omega
theorem make_has {l : List Nat} {g : Nat} (hg : g ∈ l) (p : Int) (n : Nat) (h0 : 0 < n) (hn : n ≤ 125000) {k : Nat} (hk : k ∈ asksL g p ((8 * n : Nat) : Int)) : bitL (makeL l p ((8 * n : Nat) : Int)) k = true := by
  have hlt : k < 8 * n := by have := asksL_lt (by omega) hk; omega
  rw [makeL_yes (by unfold mkOk; exact decide_eq_true (by omega)), bitL_bytes _ (by omega)]
  unfold on
  exact decide_eq_true (setL_mem hg hk)

/-- A page of the file is as it was, if it is sealed. -/
def KeepP (s t : ByteArray) : Prop := ∀ j, pgW t j = true → 64 * j + 64 ≤ s.size ∧ pgT t j = pgT s j
/-- What was made may be there, however the file is spoilt, as long as each page that is sealed is as it was (P15.3). -/
theorem keep_may {l : List Nat} {g : Nat} (hg : g ∈ l) {p n : Nat} (hn : pgOk n p = true) {t : ByteArray} (hK : KeepP (putP (bs (makeL l p ((8 * n : Nat) : Int))) p) t) : mayT t g = true := by
  obtain ⟨g1, g2, g3, g4, g5⟩ := pgOk_iff.1 hn
  have hz := make_size l p n (by omega) (by omega)
  have hok : pgOk (bs (makeL l p ((8 * n : Nat) : Int))).size p = true := by rw [hz]; exact hn
  by_cases h : hdOk t = true
  · obtain ⟨h64, _, hh⟩ := hdOk_iff.1 h
    have hw : pgW t 0 = true := pgW_iff.2 ⟨by omega, by unfold pgT; rw [Nat.mul_zero, Nat.zero_add, hh]; exact opOk_seal _⟩
    have h0 := (hK 0 hw).2
    rw [pgT_put0 hok, hz] at h0
    obtain ⟨e1, e2⟩ := head_tells (t := t) h0 (by omega) (by omega)
    refine mayT_all fun k hk => ?_
    rw [e1, e2, Int.toNat_natCast] at hk
    have hlt : k < 8 * n := by have := asksL_lt (by omega) hk; omega
    unfold offT
    by_cases hpw : pgW t (k / 480 + 1) = true
    · have hT := (hK _ hpw).2
      have hb : byT t k = byT (putP (bs (makeL l p ((8 * n : Nat) : Int))) p) k := by
        have hi : k / 8 % 60 < 60 := Nat.mod_lt _ (by decide)
        have : (pgT t (k / 480 + 1)).data.toList[k / 8 % 60]? = (pgT (putP (bs (makeL l p ((8 * n : Nat) : Int))) p) (k / 480 + 1)).data.toList[k / 8 % 60]? := by rw [hT]
        rw [pgT_at _ _ _ (by omega), pgT_at _ _ _ (by omega)] at this
        unfold byT
        rw [List.getD_eq_getElem?_getD, this, List.getD_eq_getElem?_getD]
      have hbit : bitT t k = true := by
        unfold bitT
        rw [hb]
        show bitT (putP (bs (makeL l p ((8 * n : Nat) : Int))) p) k = true
        rw [bitT_put hok (by rw [hz]; exact hlt), sl_list]
        exact make_has hg _ _ (by omega) (by omega) hk
      rw [hbit, Bool.not_true, Bool.and_false]
    · rw [Bool.eq_false_iff.2 hpw, Bool.false_and]
  · exact mayT_no (Bool.eq_false_iff.2 h) g
/-- Pages that are turned over within four bytes alone are not sealed, or as they were. -/
theorem near_keep {s t : ByteArray} (hs : ∀ j, 64 * j + 64 ≤ s.size → pgW s j = true) (hl : t.size = s.size) (at' : Nat → Nat) (ho : ∀ j i, i < 64 → (i < at' j ∨ at' j + 4 ≤ i) → t.data.toList[64 * j + i]? = s.data.toList[64 * j + i]?) : KeepP s t := by
  intro j hj
  obtain ⟨h1, h2⟩ := pgW_iff.1 hj
  obtain ⟨h3, h4⟩ := pgW_iff.1 (hs j (by omega))
  refine ⟨by omega, sealed_near h2 h4 (at' j) (by rw [pgT_size h1, pgT_size h3]) fun i hi => ?_⟩
  by_cases h64 : i < 64
  · rw [pgT_at _ _ _ h64, pgT_at _ _ _ h64]
    exact ho j i h64 hi
  · rw [List.getElem?_eq_none (by rw [sl_size, pgT_size h1]; omega), List.getElem?_eq_none (by rw [sl_size, pgT_size h3]; omega)]
end Go.Proofs.YtmbhafabphogdaaGreat

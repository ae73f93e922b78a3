/- SealOne, OpenOne, Sealed, MfMath, MfTake, MfNumRef, SealOneRef -/
import Derived.Test.YtbhgngimebecdaaGreatPk04
import Derived.Deep.RegionHeld3
import Derived.Lib.IndexBytes
import Derived.Test.YtbhgngimebecdaaGreatPk01
import Derived.WalkMore
/- SealOne -/
namespace Go.Proofs.YtbhgngimebecdaaGreat
open Go.RowKit
set_option linter.unusedVariables false

theorem and_split (i a b c d : Nat) (hb : b < 2 ^ i) (hd : d < 2 ^ i) : (2 ^ i * a + b) &&& (2 ^ i * c + d) = 2 ^ i * (a &&& c) + (b &&& d) := by
  apply Nat.eq_of_testBit_eq
  intro j
  rw [Nat.testBit_and, Nat.testBit_two_pow_mul_add a hb, Nat.testBit_two_pow_mul_add c hd, Nat.testBit_two_pow_mul_add (a &&& c) (Nat.and_lt_two_pow b hd)]
  split <;> rw [Nat.testBit_and]
theorem or_split (i a b c d : Nat) (hb : b < 2 ^ i) (hd : d < 2 ^ i) : (2 ^ i * a + b) ||| (2 ^ i * c + d) = 2 ^ i * (a ||| c) + (b ||| d) := by
  apply Nat.eq_of_testBit_eq
  intro j
  rw [Nat.testBit_or, Nat.testBit_two_pow_mul_add a hb, Nat.testBit_two_pow_mul_add c hd, Nat.testBit_two_pow_mul_add (a ||| c) (Nat.or_lt_two_pow hb hd)]
  split <;> rw [Nat.testBit_or]
theorem mask_ff (x : Nat) : x &&& 16711935 = 65536 * (x / 65536 % 256) + x % 256 := by
  have h := and_split 16 (x / 65536) (x % 65536) 255 255 (Nat.mod_lt _ (by decide)) (by decide)
  have e1 : (2 : Nat) ^ 16 * (x / 65536) + x % 65536 = x := by omega
  have e2 : (2 : Nat) ^ 16 * 255 + 255 = 16711935 := by decide
  rw [e1, e2, nat_mask8, nat_mask8] at h
  rw [h]
  omega
theorem or_pair (a b : Nat) (hb : b < 256) : b ||| (256 * a) = 256 * a + b := by
  rw [Nat.or_comm]
  exact nat_join 8 (256 * a) b (by omega) (by omega)

/-- A number of four bytes, turned about. -/
def revN (n : Nat) : Nat := 16777216 * (n % 256) + 65536 * (n / 256 % 256) + 256 * (n / 65536 % 256) + n / 16777216 % 256
theorem revN_lt (n : Nat) : revN n < 4294967296 := by unfold revN; omega
theorem be_rev (n : Nat) (hn : n < 4294967296) : be 4 (revN n) = (be 4 n).reverse := by
  have e : un (be 4 n).reverse = revN n := by
    have p1 : (256 : Nat) ^ 1 = 256 := by decide
    have p2 : (256 : Nat) ^ 2 = 65536 := by decide
    have p3 : (256 : Nat) ^ 3 = 16777216 := by decide
    simp only [p1, p2, p3, Nat.pow_zero, Nat.div_one, be, List.reverse_cons, List.reverse_nil, List.nil_append, List.cons_append, un, List.foldl_cons, List.foldl_nil, UInt8.toNat_ofNat']
    unfold revN
    omega
  have h := be_un (be 4 n).reverse
  rw [List.length_reverse, be_length, e] at h
  exact h

theorem rev_one (n : Nat) (hn : n < 4294967296) : bits .or .u32 (bits .and .u32 ((n : Int) / 256) 16711935) (bits .and .u32 (n : Int) 16711935 * 256 % 4294967296) =
    ((16777216 * (n / 65536 % 256) + 65536 * (n / 16777216 % 256) + 256 * (n % 256) + n / 256 % 256 : Nat) : Int) := by
  have h0 : (n : Int) / 256 = ((n / 256 : Nat) : Int) := by omega
  have h1 : bits .and .u32 ((n / 256 : Nat) : Int) 16711935 = ((n / 256 &&& 16711935 : Nat) : Int) := u32_and_nat _ _ (by omega) (by decide)
  have h2 : bits .and .u32 (n : Int) 16711935 = ((n &&& 16711935 : Nat) : Int) := u32_and_nat _ _ hn (by decide)
  rw [h0, h1, h2, mask_ff, mask_ff]
  have e3 : n / 256 / 65536 % 256 = n / 16777216 % 256 := by omega
  have e4 : n % 256 < 256 := Nat.mod_lt _ (by decide)
  have e5 : n / 256 % 256 < 256 := Nat.mod_lt _ (by decide)
  have e6 : n / 65536 % 256 < 256 := Nat.mod_lt _ (by decide)
  have e7 : n / 16777216 % 256 < 256 := Nat.mod_lt _ (by decide)
  rw [e3]
  generalize n % 256 = a at *
  generalize n / 256 % 256 = b at *
  generalize n / 65536 % 256 = c at *
  generalize n / 16777216 % 256 = d at *
  have h3 : ((65536 * c + a : Nat) : Int) * 256 % 4294967296 = ((65536 * (256 * c) + 256 * a : Nat) : Int) := by omega
  rw [h3]
  have h4 := u32_or_nat (65536 * d + b) (65536 * (256 * c) + 256 * a) (by omega) (by omega)
  rw [h4]
  have h5 := or_split 16 d b (256 * c) (256 * a) (by omega) (by omega)
  rw [or_pair c d (by omega), or_pair a b (by omega)] at h5
  have e8 : (2 : Nat) ^ 16 = 65536 := by decide
  rw [e8] at h5
  rw [h5]
  omega
theorem rev_two (m : Nat) (hm : m < 4294967296) : bits .or .u32 ((m : Int) / 65536) ((m : Int) * 65536 % 4294967296) = ((m % 65536 * 65536 + m / 65536 : Nat) : Int) := by
  have h0 : (m : Int) / 65536 = ((m / 65536 : Nat) : Int) := by omega
  have h1 : (m : Int) * 65536 % 4294967296 = ((m % 65536 * 65536 : Nat) : Int) := by omega
  rw [h0, h1, u32_or_nat _ _ (by omega) (by omega), Nat.or_comm]
  rw [nat_join 16 _ _ (by omega) (by omega)]

set_option maxHeartbeats 400000 in
theorem rev_any (n : Nat) (w : World) (hn : n < 4294967296) :
    Calls Tryz.prog 96 #[.int .u32 (n : Nat)] w fun e w' => e = .returned (.int .u32 (revN n : Nat)) ∧ w = w' := by
  have h1 := Lib.hid (rev_one n hn)
  go_enter Tryz.func96, Tryz.ntmps96
  go_wp2
  go_ret
  refine ⟨ret_int ?_, rfl⟩
  rw [h1.out, rev_two _ (by omega)]
  unfold revN
  omega

theorem put_four (n : Nat) (w : World) (hn : n < 4294967296) :
    Calls Tryz.prog 59 #[.int .u64 (revN n : Nat), .int .i64 4] w fun e w' => e = .returned (.string (bs (be 4 n).reverse)) ∧ Below w.heap.size w w' := by
  rw [← be_rev n hn]
  exact put_some (revN n) 4 w (by omega) (by omega) (by have := revN_lt n; omega)

set_option maxHeartbeats 400000 in
theorem tail_any (s : ByteArray) (w : World) (hs : s.size ≤ maxLen) :
    Calls Tryz.prog 83 #[.string s] w fun e w' => e = .returned (.string (bs (tailS s.data.toList))) ∧ Below w.heap.size w w' := by
  have h1 := Lib.hid (fun w => sum_any s w hs)
  have hl := sumS_lt s.data.toList
  unfold tailS
  generalize sumS s.data.toList = n at *
  have h2 := Lib.hid (fun w => rev_any n w hl)
  have h3 := Lib.hid (fun w => put_four n w hl)
  have hr := revN_lt n
  generalize revN n = m at *
  generalize bs (be 4 n).reverse = t at *
  unfold maxLen at hs
  go_enter Tryz.func83, Tryz.ntmps83
  go_wp2_with fail
  refine (h1.out _).mono ?_
  rintro e w' ⟨rfl, rfl⟩
  go_wp2_with fail
  refine (h2.out _).mono ?_
  rintro e w' ⟨rfl, rfl⟩
  go_wp2_with fail
  refine (h3.out _).mono ?_
  rintro e w' ⟨rfl, hb⟩
  go_wp2
  go_ret
  exact ⟨rfl, hb⟩

/-- A text, sealed (P2.2). -/
def sealS (s : ByteArray) : ByteArray := s ++ bs (tailS s.data.toList)

theorem add_four (s : ByteArray) (h : s.size + 4 ≤ maxLen) (l : List UInt8) (hl : l.length = 4) (w : World) : (Op.stringOp .add s (bs l)).run Tryz.prog w = .ok (.string (s ++ bs l)) w :=
  run_string_add_sum (P := Tryz.prog) (w := w) s (bs l) (by rw [bs_size, hl]; exact h)

set_option maxHeartbeats 400000 in
theorem seal_any (s : ByteArray) (w : World) (hs : s.size + 4 ≤ maxLen) :
    Calls Tryz.prog 62 #[.string s] w fun e w' => e = .returned (.string (sealS s)) ∧ Below w.heap.size w w' := by
  have h1 := Lib.hid (fun w => tail_any s w (by omega))
  have ha := add_four s hs _ (tailS_length s.data.toList)
  unfold sealS
  generalize tailS s.data.toList = t at *
  unfold maxLen at hs
  go_enter Tryz.func62, Tryz.ntmps62
  go_wp2_with fail
  refine (h1.out _).mono ?_
  rintro e w' ⟨rfl, hb⟩
  go_wp2
  go_ret
  exact ⟨rfl, hb⟩
end Go.Proofs.YtbhgngimebecdaaGreat

/- OpenOne -/
namespace Go.Proofs.YtbhgngimebecdaaGreat
open Go.RowKit
set_option linter.unusedVariables false

/-- Is a text sealed (P2.2)? -/
def opOk (s : ByteArray) : Bool := decide (4 ≤ s.size ∧ s.extract (s.size - 4) s.size = bs (tailS (s.extract 0 (s.size - 4)).data.toList))
/-- The text that is sealed (P2.2). -/
def opA (s : ByteArray) : ByteArray := if opOk s = true then s.extract 0 (s.size - 4) else ByteArray.empty

theorem list_eq {a b : ByteArray} (h : a = b) : (a.toList == b.toList) = true := by rw [h, beq_iff_eq]
theorem list_ne {a b : ByteArray} (h : ¬ a = b) : (a.toList == b.toList) = false := by
  rw [beq_eq_false_iff_ne]
  intro x
  rw [Lib.toList_data, Lib.toList_data] at x
  exact h (ByteArray.ext (Array.toList_inj.1 x))

end Go.Proofs.YtbhgngimebecdaaGreat

/- Sealed -/
namespace Go.Proofs.YtbhgngimebecdaaGreat
set_option linter.unusedVariables false

theorem sl_list (l : List UInt8) : (bs l).data.toList = l := by simp [bs]
theorem sl_size (s : ByteArray) : s.data.toList.length = s.size := Array.length_toList
theorem sl_append (a b : ByteArray) : (a ++ b).data.toList = a.data.toList ++ b.data.toList := by simp
/-- A part of a text, as a list. -/
theorem sl_ext (s : ByteArray) (a b : Nat) : (s.extract a b).data.toList = (s.data.toList.drop a).take (b - a) := by simp
theorem sl_extbs (s : ByteArray) (a b : Nat) : s.extract a b = bs ((s.data.toList.drop a).take (b - a)) := by rw [← sl_ext, bs_data]

theorem seal_list (s : ByteArray) : (sealS s).data.toList = s.data.toList ++ tailS s.data.toList := by simp [sealS, bs]
theorem seal_size (s : ByteArray) : (sealS s).size = s.size + 4 := by rw [← sl_size, seal_list, List.length_append, tailS_length, sl_size]
/-- What is sealed is sealed. -/
theorem opOk_seal (s : ByteArray) : opOk (sealS s) = true := by
  unfold opOk
  refine decide_eq_true ⟨by rw [seal_size]; omega, ?_⟩
  have e1 : (sealS s).extract 0 ((sealS s).size - 4) = s := by
    rw [sl_extbs, seal_size, seal_list]
    have : s.data.toList.length = s.size := sl_size s
    rw [List.drop_zero, show s.size + 4 - 4 - 0 = s.data.toList.length by omega, List.take_left, bs_data]
  rw [e1, sl_extbs, seal_size, seal_list]
  have : s.data.toList.length = s.size := sl_size s
  rw [show s.size + 4 - 4 = s.data.toList.length by omega, List.drop_left, List.take_of_length_le (by rw [tailS_length]; omega)]
/-- The state behind what is sealed. -/
theorem sealed_fold {s : ByteArray} (h : opOk s = true) : foldS 4294967295 s.data.toList = stk 32 4294967295 := by
  obtain ⟨h4, h5⟩ := of_decide_eq_true h
  have hl := sl_size s
  have h6 := congrArg (fun s : ByteArray => s.data.toList) h5
  simp only [sl_ext, sl_list] at h6
  rw [List.drop_zero, List.take_of_length_le (by rw [List.length_drop]; omega)] at h6
  have h7 := (sealed_iff (s.data.toList.take (s.size - 4 - 0)) (s.data.toList.drop (s.size - 4)) (by rw [List.length_drop]; omega)).1 h6
  rw [Nat.sub_zero, List.take_append_drop] at h7
  exact h7
/-- Sealed texts that differ within four places, side by side, alone, are the same. -/
theorem sealed_near {s t : ByteArray} (hs : opOk s = true) (ht : opOk t = true) (k : Nat) (hl : s.size = t.size) (ho : ∀ j, j < k ∨ k + 4 ≤ j → s.data.toList[j]? = t.data.toList[j]?) : s = t := by
  have h := window (x := 4294967295) (by decide) s.data.toList t.data.toList k (by rw [sl_size, sl_size, hl]) ho (by rw [sealed_fold hs, sealed_fold ht])
  rw [← bs_data s, h, bs_data]
end Go.Proofs.YtbhgngimebecdaaGreat

/- MfMath -/
namespace Go.Proofs.YtbhgngimebecdaaGreat
set_option linter.unusedVariables false

/-- A manifest. -/
structure ManS where
  next : Int
  check : Int
  seed : Nat
  lv : LvL
theorem ManS.ext' {a b : ManS} (h1 : a.next = b.next) (h2 : a.check = b.check) (h3 : a.seed = b.seed) (h4 : a.lv = b.lv) : a = b := by
  cases a; cases b; simp only at h1 h2 h3 h4; subst h1; subst h2; subst h3; subst h4; rfl
def MayM (m : ManS) : Prop := 0 ≤ m.next ∧ m.next ≤ 1000000 ∧ 0 ≤ m.check ∧ m.check ≤ 2147483647 ∧ MayBe m.lv ∧ ∀ x ∈ m.lv.flatten, x < m.next
instance (m : ManS) : Decidable (MayM m) := by unfold MayM; infer_instance
def mayM (m : ManS) : Bool := decide (MayM m)
/-- Without empty levels at the end. -/
def trimM (m : ManS) : ManS := ⟨m.next, m.check, m.seed, trimL m.lv⟩
/-- Whether two are the same (P22.1). -/
def sameM (a b : ManS) : Bool := decide (a.next = b.next ∧ a.check = b.check ∧ a.seed = b.seed ∧ trimL a.lv = trimL b.lv)

def u4 (x : Int) : List UInt8 := be 4 x.toNat
def lvB (l : List Int) : List UInt8 := be 1 l.length ++ l.flatMap u4
def lvsB (L : LvL) : List UInt8 := L.flatMap lvB
def imapL : List UInt8 := [105, 109, 97, 112]
/-- What stands ahead of the levels. -/
def mfHead (m : ManS) : List UInt8 := imapL ++ be 4 m.next.toNat ++ be 4 m.check.toNat ++ be 8 m.seed
def mfTop (m : ManS) : List UInt8 := mfHead m ++ be 1 (trimL m.lv).length
def mfBody (m : ManS) : List UInt8 := mfTop m ++ lvsB (trimL m.lv)
/-- A manifest's bytes (P22.2). -/
def mfB (m : ManS) : ByteArray := sealS (bs (mfBody m))
/-- What Put tells. -/
def mfS (m : ManS) : ByteArray := if MayM m then mfB m else ByteArray.empty
def mfE (m : ManS) : Int := if MayM m then 0 else 2
theorem mf_no {m : ManS} (h : ¬ MayM m) : mfS m = ByteArray.empty ∧ mfE m = 2 := by unfold mfS mfE; rw [if_neg h, if_neg h]; exact ⟨rfl, rfl⟩
theorem mf_yes {m : ManS} (h : MayM m) : mfS m = mfB m ∧ mfE m = 0 := by unfold mfS mfE; rw [if_pos h, if_pos h]; exact ⟨rfl, rfl⟩

theorem u4_length (x : Int) : (u4 x).length = 4 := be_length _ _
theorem flat4_length : ∀ l : List Int, (l.flatMap u4).length = 4 * l.length
  | [] => rfl
  | x :: l => by rw [List.flatMap_cons, List.length_append, u4_length, flat4_length l, List.length_cons]; omega
theorem lvB_length (l : List Int) : (lvB l).length = 1 + 4 * l.length := by unfold lvB; rw [List.length_append, be_length, flat4_length]
theorem lvsB_append (a b : LvL) : lvsB (a ++ b) = lvsB a ++ lvsB b := by unfold lvsB; rw [List.flatMap_append]
theorem lvsB_cons (x : List Int) (L : LvL) : lvsB (x :: L) = lvB x ++ lvsB L := by unfold lvsB; rw [List.flatMap_cons]
theorem lvsB_one (x : List Int) : lvsB [x] = lvB x := by rw [lvsB_cons]; show _ ++ [] = _; rw [List.append_nil]
theorem lvsB_nil : lvsB [] = [] := rfl
theorem lvsB_length : ∀ L : LvL, (lvsB L).length = L.length + 4 * L.flatten.length
  | [] => rfl
  | x :: L => by rw [lvsB_cons, List.length_append, lvB_length, lvsB_length L, List.length_cons, List.flatten_cons, List.length_append]; omega
theorem mfHead_length (m : ManS) : (mfHead m).length = 20 := by
  unfold mfHead
  rw [List.length_append, List.length_append, List.length_append, be_length, be_length, be_length]
  rfl
theorem mfTop_length (m : ManS) : (mfTop m).length = 21 := by unfold mfTop; rw [List.length_append, mfHead_length, be_length]
theorem mfB_size (m : ManS) : (mfB m).size = 25 + (lvsB (trimL m.lv)).length := by unfold mfB; rw [seal_size, bs_size]; unfold mfBody; rw [List.length_append, mfTop_length]; omega
theorem mfB_list (m : ManS) : (mfB m).data.toList = mfTop m ++ (lvsB (trimL m.lv) ++ tailS (mfBody m)) := by
  unfold mfB
  rw [seal_list, sl_list]
  conv => lhs; arg 1; unfold mfBody
  rw [List.append_assoc]
theorem MayM.lv_ok {m : ManS} (h : MayM m) : (trimL m.lv).length ≤ 5 ∧ (trimL m.lv).flatten.length ≤ 40 ∧ ∀ x ∈ trimL m.lv, x.length ≤ 40 ∧ ∀ y ∈ x, 0 ≤ y ∧ y < 4294967296 := by
  obtain ⟨h1, h2, h3, h4, h5, h6⟩ := h
  have e := trimL_flatten m.lv
  have hl := trimL_length m.lv
  have hf : (trimL m.lv).flatten.length ≤ 40 := by rw [e]; exact h5.2.1
  refine ⟨by have := h5.1; omega, hf, fun x hx => ⟨?_, fun y hy => ?_⟩⟩
  · have h7 : ∀ (L : LvL), x ∈ L → x.length ≤ L.flatten.length := by
      intro L
      induction L with
      | nil => intro h; cases h
      | cons z L ih =>
        intro h
        rw [List.flatten_cons, List.length_append]
        rcases List.mem_cons.1 h with rfl | h
        · omega
        · have := ih h; omega
    have := h7 _ hx
    omega
  · have hm : y ∈ m.lv.flatten := by rw [← e]; exact List.mem_flatten.2 ⟨x, hx, hy⟩
    have a := h5.2.2.1 y hm
    have b := h6 y hm
    omega
theorem mfB_small {m : ManS} (h : MayM m) : (mfB m).size ≤ 190 := by
  obtain ⟨h1, h2, -⟩ := h.lv_ok
  rw [mfB_size, lvsB_length]
  omega

theorem trimN_idem (L : LvL) (n : Nat) (hn : n ≤ L.length) : trimN (L.take (trimN L n)) (trimN L n) = trimN L n := by
  induction n with
  | zero => rfl
  | succ n ih =>
    by_cases c : L.getD n [] = []
    · have e : trimN L (n + 1) = trimN L n := by rw [trimN, if_pos c]
      rw [e]
      exact ih (by omega)
    · have e : trimN L (n + 1) = n + 1 := by rw [trimN, if_neg c]
      rw [e, trimN, if_neg]
      rw [List.getD_eq_getElem?_getD, List.getElem?_take, if_pos (by omega), ← List.getD_eq_getElem?_getD]
      exact c
theorem trimL_idem (L : LvL) : trimL (trimL L) = trimL L := by
  have hle := trimN_le L L.length
  have h := trimN_idem L L.length (Nat.le_refl _)
  have e : trimL L = L.take (trimN L L.length) := rfl
  have hl : (L.take (trimN L L.length)).length = trimN L L.length := by rw [List.length_take]; omega
  show (trimL L).take (trimN (trimL L) (trimL L).length) = trimL L
  rw [e, hl, h, List.take_take, Nat.min_self]
theorem trimM_idem (m : ManS) : trimM (trimM m) = trimM m := by unfold trimM; rw [trimL_idem]
theorem trimN_empties (L : LvL) (k : Nat) : ∀ n, n ≤ L.length → trimN (L ++ List.replicate k []) n = trimN L n
  | 0, _ => rfl
  | n + 1, h => by
    have e : (L ++ List.replicate k []).getD n [] = L.getD n [] := by rw [List.getD_eq_getElem?_getD, List.getD_eq_getElem?_getD, List.getElem?_append_left (by omega)]
    unfold trimN
    rw [e, trimN_empties L k n (by omega)]
theorem trimN_more (L : LvL) (k : Nat) : ∀ j, j ≤ k → trimN (L ++ List.replicate k []) (L.length + j) = trimN L L.length
  | 0, _ => trimN_empties L k _ (Nat.le_refl _)
  | j + 1, h => by
    have e : (L ++ List.replicate k []).getD (L.length + j) ([] : List Int) = [] := by
      rw [List.getD_eq_getElem?_getD, List.getElem?_append_right (by omega), List.getElem?_replicate]
      split <;> rfl
    rw [show L.length + (j + 1) = (L.length + j) + 1 from rfl, trimN, if_pos e]
    exact trimN_more L k j (by omega)
/-- Empty levels at the end make no difference. -/
theorem trimL_more (L : LvL) (k : Nat) : trimL (L ++ List.replicate k []) = trimL L := by
  have hle := trimN_le L L.length
  conv => lhs; unfold trimL
  rw [List.length_append, List.length_replicate, trimN_more L k k (Nat.le_refl _), List.take_append_of_le_length hle]
  rfl
theorem mayBe_more (L : LvL) (k : Nat) (h : MayBe L) (hk : L.length + k ≤ 5) : MayBe (L ++ List.replicate k []) := by
  have e : (L ++ List.replicate k []).flatten = L.flatten := by rw [List.flatten_append, flatten_empty, List.append_nil]
  refine ⟨by rw [List.length_append, List.length_replicate]; exact hk, ?_⟩
  rw [e]
  exact h.2
theorem mayBe_trim {L : LvL} (h : MayBe L) : MayBe (trimL L) := by
  have := trimL_length L
  refine ⟨by have := h.1; omega, ?_⟩
  rw [trimL_flatten]
  exact h.2
theorem mayM_trim {m : ManS} (h : MayM m) : MayM (trimM m) := by
  obtain ⟨h1, h2, h3, h4, h5, h6⟩ := h
  refine ⟨h1, h2, h3, h4, mayBe_trim h5, ?_⟩
  show ∀ x ∈ (trimL m.lv).flatten, _
  rw [trimL_flatten]
  exact h6
theorem mfB_trim (m : ManS) : mfB (trimM m) = mfB m := by
  have e1 : trimL (trimM m).lv = trimL m.lv := trimL_idem m.lv
  have e2 : mfBody (trimM m) = mfBody m := by unfold mfBody mfTop mfHead; rw [e1]; rfl
  unfold mfB
  rw [e2]
theorem sameM_trim (m : ManS) : sameM m (trimM m) = true := by
  refine decide_eq_true ⟨rfl, rfl, rfl, ?_⟩
  exact (trimL_idem m.lv).symm
theorem sameM_self (m : ManS) : sameM m m = true := decide_eq_true ⟨rfl, rfl, rfl, rfl⟩
/-- With more empty levels at the end. -/
def moreM (m : ManS) (k : Nat) : ManS := ⟨m.next, m.check, m.seed, m.lv ++ List.replicate k []⟩
theorem moreM_trim (m : ManS) (k : Nat) : trimM (moreM m k) = trimM m := by unfold trimM moreM; rw [trimL_more]
theorem moreM_put (m : ManS) (k : Nat) : mfB (moreM m k) = mfB m := by rw [← mfB_trim, moreM_trim, mfB_trim]
theorem moreM_may {m : ManS} {k : Nat} (h : MayM m) (hk : m.lv.length + k ≤ 5) : MayM (moreM m k) := by
  obtain ⟨h1, h2, h3, h4, h5, h6⟩ := h
  refine ⟨h1, h2, h3, h4, mayBe_more _ _ h5 hk, ?_⟩
  show ∀ x ∈ (m.lv ++ List.replicate k []).flatten, _
  rw [List.flatten_append, flatten_empty, List.append_nil]
  exact h6
theorem sameM_more {m n : ManS} (k : Nat) (h : sameM m n = true) : sameM m (moreM n k) = true := by
  obtain ⟨h1, h2, h3, h4⟩ := of_decide_eq_true h
  refine decide_eq_true ⟨h1, h2, h3, ?_⟩
  show trimL m.lv = trimL (n.lv ++ List.replicate k [])
  rw [trimL_more, h4]

/-- The number of so many bytes at a place. -/
def num (s : ByteArray) (p n : Nat) : Nat := getS (s.extract p (p + n))
/-- So many numbers at a place. -/
def lvAt (s : ByteArray) (p k : Nat) : List Int := (List.range k).map fun j => ((num s (p + 4 * j) 4 : Nat) : Int)
theorem lvAt_length (s : ByteArray) (p k : Nat) : (lvAt s p k).length = k := by unfold lvAt; rw [List.length_map, List.length_range]
theorem lvAt_succ (s : ByteArray) (p k : Nat) : lvAt s p (k + 1) = lvAt s p k ++ [((num s (p + 4 * k) 4 : Nat) : Int)] := by unfold lvAt; rw [List.range_succ, List.map_append]; rfl
theorem lvAt_zero (s : ByteArray) (p : Nat) : lvAt s p 0 = [] := rfl
theorem lvAt_at (s : ByteArray) (p : Nat) {k j : Nat} (h : j < k) : (lvAt s p k)[j]? = some ((num s (p + 4 * j) 4 : Nat) : Int) := by unfold lvAt; rw [List.getElem?_map, List.getElem?_range h]; rfl
theorem num_list {s : ByteArray} {a b c : List UInt8} {p n : Nat} (h : s.data.toList = a ++ (b ++ c)) (hp : p = a.length) (hn : n = b.length) (h8 : n ≤ 8) : num s p n = un b := by
  subst hp
  subst hn
  unfold num getS
  rw [sl_ext, h, List.drop_left, show a.length + b.length - a.length = b.length by omega, List.take_left, List.take_of_length_le h8]
theorem num_lt (s : ByteArray) (p n k : Nat) (hn : n ≤ k) (h8 : n ≤ 8) : num s p n < 256 ^ k := by
  unfold num getS
  have h := un_lt ((s.extract p (p + n)).data.toList.take 8)
  have h2 : ((s.extract p (p + n)).data.toList.take 8).length ≤ k := by
    rw [List.length_take, sl_ext, List.length_take]
    omega
  exact Nat.lt_of_lt_of_le h (Nat.pow_le_pow_right (by decide) h2)
theorem un_four' (n : Nat) (h : n < 4294967296) : un (be 4 n) = n := by
  have p : (256 : Nat) ^ 4 = 4294967296 := by decide
  rw [un_be, p, Nat.mod_eq_of_lt h]
theorem un_eight' (n : Nat) (h : n < 18446744073709551616) : un (be 8 n) = n := by
  have p : (256 : Nat) ^ 8 = 18446744073709551616 := by decide
  rw [un_be, p, Nat.mod_eq_of_lt h]
theorem un_one' (n : Nat) (h : n < 256) : un (be 1 n) = n := by rw [un_be, Nat.pow_one, Nat.mod_eq_of_lt h]
theorem flat4_take {x : List Int} {j : Nat} (h : j < x.length) : x.flatMap u4 = (x.take j).flatMap u4 ++ (u4 x[j] ++ (x.drop (j + 1)).flatMap u4) := by
  conv => lhs; rw [← List.take_append_drop j x, List.drop_eq_getElem_cons h, List.flatMap_append, List.flatMap_cons]
/-- Numbers that stand at a place are read there. -/
theorem lvAt_list {s : ByteArray} {a c : List UInt8} {x : List Int} {p : Nat} (h : s.data.toList = a ++ (x.flatMap u4 ++ c)) (hp : p = a.length) (hx : ∀ y ∈ x, 0 ≤ y ∧ y < 4294967296) : lvAt s p x.length = x := by
  apply List.ext_getElem?
  intro j
  rcases Nat.lt_or_ge j x.length with c1 | c1
  · rw [lvAt_at _ _ c1, List.getElem?_eq_getElem c1]
    have e : s.data.toList = (a ++ (x.take j).flatMap u4) ++ (u4 x[j] ++ ((x.drop (j + 1)).flatMap u4 ++ c)) := by
      rw [h, flat4_take c1]
      simp only [List.append_assoc]
    have hl : p + 4 * j = (a ++ (x.take j).flatMap u4).length := by rw [List.length_append, flat4_length, List.length_take, hp]; omega
    have h1 := hx x[j] (List.getElem_mem c1)
    rw [num_list e hl (u4_length _).symm (by decide)]
    unfold u4
    rw [un_four' _ (by omega)]
    congr 1
    omega
  · rw [List.getElem?_eq_none (by rw [lvAt_length]; exact c1), List.getElem?_eq_none c1]

/-- Where a level's bytes begin. -/
def place (T : LvL) (i : Nat) : Nat := 21 + (lvsB (T.take i)).length
theorem place_zero (T : LvL) : place T 0 = 21 := rfl
theorem place_succ {T : LvL} {i : Nat} {x : List Int} (h : T[i]? = some x) : place T (i + 1) = place T i + 1 + 4 * x.length := by
  have e : T.take (i + 1) = T.take i ++ [x] := by rw [List.take_add_one, h]; rfl
  unfold place
  rw [e, lvsB_append, lvsB_one, List.length_append, lvB_length]
  omega
/-- What stands in a manifest's bytes, ahead. -/
theorem mf_front {m : ManS} {s : ByteArray} (h : MayM m) (hseed : m.seed < 18446744073709551616) (hs : mfB m = s) :
    ((num s 4 4 : Nat) : Int) = m.next ∧ ((num s 8 4 : Nat) : Int) = m.check ∧ num s 12 8 = m.seed ∧ num s 20 1 = (trimL m.lv).length := by
  obtain ⟨h1, h2, h3, h4, h5, h6⟩ := h
  have hl := trimL_length m.lv
  have hl5 := h5.1
  have e := mfB_list m
  rw [hs] at e
  unfold mfTop mfHead at e
  have l4 : imapL.length = 4 := rfl
  have e1 : s.data.toList = imapL ++ (be 4 m.next.toNat ++ (be 4 m.check.toNat ++ (be 8 m.seed ++ (be 1 (trimL m.lv).length ++ (lvsB (trimL m.lv) ++ tailS (mfBody m)))))) := by rw [e]; simp only [List.append_assoc]
  have e2 : s.data.toList = (imapL ++ be 4 m.next.toNat) ++ (be 4 m.check.toNat ++ (be 8 m.seed ++ (be 1 (trimL m.lv).length ++ (lvsB (trimL m.lv) ++ tailS (mfBody m))))) := by rw [e]; simp only [List.append_assoc]
  have e3 : s.data.toList = (imapL ++ be 4 m.next.toNat ++ be 4 m.check.toNat) ++ (be 8 m.seed ++ (be 1 (trimL m.lv).length ++ (lvsB (trimL m.lv) ++ tailS (mfBody m)))) := by rw [e]; simp only [List.append_assoc]
  have e4 : s.data.toList = (imapL ++ be 4 m.next.toNat ++ be 4 m.check.toNat ++ be 8 m.seed) ++ (be 1 (trimL m.lv).length ++ (lvsB (trimL m.lv) ++ tailS (mfBody m))) := by rw [e]; simp only [List.append_assoc]
  refine ⟨?_, ?_, ?_, ?_⟩
  · rw [num_list e1 l4.symm (be_length _ _).symm (by decide), un_four' _ (by omega)]; omega
  · rw [num_list e2 (by rw [List.length_append, be_length]; rfl) (be_length _ _).symm (by decide), un_four' _ (by omega)]; omega
  · rw [num_list e3 (by rw [List.length_append, List.length_append, be_length, be_length]; rfl) (be_length _ _).symm (by decide), un_eight' _ hseed]
  · rw [num_list e4 (by rw [List.length_append, List.length_append, List.length_append, be_length, be_length, be_length]; rfl) (be_length _ _).symm (by decide), un_one' _ (by omega)]
/-- What stands in them at a level's place. -/
theorem mf_level {m : ManS} {s : ByteArray} {i : Nat} {x : List Int} (h : MayM m) (hs : mfB m = s) (hx : (trimL m.lv)[i]? = some x) :
    num s (place (trimL m.lv) i) 1 = x.length ∧ lvAt s (place (trimL m.lv) i + 1) x.length = x ∧ place (trimL m.lv) i + 1 + 4 * x.length + 4 ≤ s.size := by
  obtain ⟨k1, k2, k3⟩ := h.lv_ok
  obtain ⟨x40, xb⟩ := k3 x (List.mem_of_getElem? hx)
  have hi : i < (trimL m.lv).length := (List.getElem?_eq_some_iff.1 hx).1
  have e := mfB_list m
  have hsz := mfB_size m
  rw [hs] at e hsz
  have eT : trimL m.lv = (trimL m.lv).take i ++ (x :: (trimL m.lv).drop (i + 1)) := by
    have := (List.getElem?_eq_some_iff.1 hx).2
    conv => lhs; rw [← List.take_append_drop i (trimL m.lv), List.drop_eq_getElem_cons hi, this]
  have eL : lvsB (trimL m.lv) = lvsB ((trimL m.lv).take i) ++ (be 1 x.length ++ (x.flatMap u4 ++ lvsB ((trimL m.lv).drop (i + 1)))) := by
    conv => lhs; rw [eT]
    rw [lvsB_append, lvsB_cons]
    unfold lvB
    simp only [List.append_assoc]
  have e1 : s.data.toList = (mfTop m ++ lvsB ((trimL m.lv).take i)) ++ (be 1 x.length ++ (x.flatMap u4 ++ (lvsB ((trimL m.lv).drop (i + 1)) ++ tailS (mfBody m)))) := by rw [e, eL]; simp only [List.append_assoc]
  have e2 : s.data.toList = (mfTop m ++ lvsB ((trimL m.lv).take i) ++ be 1 x.length) ++ (x.flatMap u4 ++ (lvsB ((trimL m.lv).drop (i + 1)) ++ tailS (mfBody m))) := by rw [e, eL]; simp only [List.append_assoc]
  have hp : place (trimL m.lv) i = (mfTop m ++ lvsB ((trimL m.lv).take i)).length := by unfold place; rw [List.length_append, mfTop_length]
  refine ⟨?_, ?_, ?_⟩
  · rw [num_list e1 hp (be_length _ _).symm (by decide), un_one' _ (by omega)]
  · exact lvAt_list e2 (by rw [List.length_append, be_length, ← hp]) xb
  · rw [eL] at hsz
    simp only [List.length_append, be_length, flat4_length] at hsz
    unfold place
    omega
/-- What has been read up to a level. -/
def MfAt (s : ByteArray) (i p : Nat) (L : LvL) : Prop := ∀ m, MayM m → mfB m = s → i ≤ (trimL m.lv).length → p = place (trimL m.lv) i ∧ L = (trimL m.lv).take i
theorem mf_start (s : ByteArray) : MfAt s 0 21 [] := fun m _ _ _ => ⟨rfl, rfl⟩
/-- One level more, as far as there are bytes. -/
theorem mf_step {s : ByteArray} {i p k : Nat} {L : LvL} (h : MfAt s i p L) (hk : k ≤ num s p 1) (he : k = num s p 1 ∨ s.size < p + 1 + 4 * k + 4) : MfAt s (i + 1) (p + 1 + 4 * k) (L ++ [lvAt s (p + 1) k]) := by
  intro m hm hs hi
  obtain ⟨rfl, rfl⟩ := h m hm hs (by omega)
  obtain ⟨x, hx⟩ : ∃ x, (trimL m.lv)[i]? = some x := ⟨_, List.getElem?_eq_getElem hi⟩
  obtain ⟨h1, h2, h3⟩ := mf_level hm hs hx
  have hkx : k = x.length := by omega
  subst hkx
  refine ⟨(place_succ hx).symm, ?_⟩
  rw [h2, List.take_add_one, hx]
  rfl
/-- What was read of bytes: if they are a manifest's, just that one. -/
def ReadsM (s : ByteArray) (r : ManS) : Prop := ∀ m, MayM m → m.seed < 18446744073709551616 → mfB m = s → r = trimM m
theorem mf_end {s : ByteArray} {n p : Nat} {L : LvL} (h : MfAt s n p L) (hn : n ≤ num s 20 1) (he : n = num s 20 1 ∨ s.size ≤ p) : ReadsM s ⟨(num s 4 4 : Nat), (num s 8 4 : Nat), num s 12 8, L⟩ := by
  intro m hm hseed hs
  obtain ⟨h1, h2, h3, h4⟩ := mf_front hm hseed hs
  obtain ⟨h5, h6⟩ := h m hm hs (by omega)
  have hn2 : n = (trimL m.lv).length := by
    rcases he with e | e
    · omega
    · have hle : (lvsB ((trimL m.lv).take n)).length ≤ (lvsB (trimL m.lv)).length := by
        conv => rhs; rw [← List.take_append_drop n (trimL m.lv), lvsB_append, List.length_append]
        omega
      have := mfB_size m
      rw [hs] at this
      unfold place at h5
      omega
  refine ManS.ext' h1 h2 h3 ?_
  show L = trimL m.lv
  rw [h6, hn2, List.take_length]
/-- Bytes of a manifest. -/
def GoodM (s : ByteArray) : Prop := ∃ m, (MayM m ∧ m.seed < 18446744073709551616) ∧ mfB m = s
open Classical in
/-- What Get tells. -/
noncomputable def mgE (s : ByteArray) : Int := if GoodM s then 0 else 90
def zeroM : ManS := ⟨0, 0, 0, []⟩
open Classical in
noncomputable def mgM (s : ByteArray) : ManS := if h : GoodM s then trimM (Classical.choose h) else zeroM
theorem mg_no {s : ByteArray} (h : ¬ GoodM s) : mgE s = 90 ∧ mgM s = zeroM := by unfold mgE mgM; rw [if_neg h, dif_neg h]; exact ⟨rfl, rfl⟩
theorem mg_yes {s : ByteArray} {r : ManS} (h : GoodM s) (hr : ReadsM s r) : mgE s = 0 ∧ mgM s = r := by
  unfold mgE mgM
  rw [if_pos h, dif_pos h]
  obtain ⟨⟨h1, h2⟩, h3⟩ := Classical.choose_spec h
  exact ⟨rfl, (hr _ h1 h2 h3).symm⟩
/-- What was read is put again: just if they are a manifest's. -/
theorem good_reads {s : ByteArray} {r : ManS} (hr : ReadsM s r) (hseed : r.seed < 18446744073709551616) : GoodM s ↔ MayM r ∧ mfB r = s := by
  constructor
  · rintro ⟨m, ⟨h1, h2⟩, h3⟩
    have e := hr m h1 h2 h3
    rw [e]
    exact ⟨mayM_trim h1, by rw [mfB_trim]; exact h3⟩
  · rintro ⟨h1, h2⟩
    exact ⟨r, ⟨h1, hseed⟩, h2⟩
theorem mg_back {m : ManS} (h : MayM m) (hseed : m.seed < 18446744073709551616) : mgE (mfB m) = 0 ∧ mgM (mfB m) = trimM m := by
  have hg : GoodM (mfB m) := ⟨m, ⟨h, hseed⟩, rfl⟩
  unfold mgE mgM
  rw [if_pos hg, dif_pos hg]
  obtain ⟨⟨h1, h2⟩, h3⟩ := Classical.choose_spec hg
  refine ⟨rfl, ?_⟩
  generalize Classical.choose hg = m' at *
  have ra : ∀ a : ManS, MayM a → a.seed < 18446744073709551616 → mfB a = mfB m → ∃ L p, MfAt (mfB m) (num (mfB m) 20 1) p L := by
    intro a ha hsa hea
    have hrun : ∀ i, ∃ L p, MfAt (mfB m) i p L := by
      intro i
      induction i with
      | zero => exact ⟨_, _, mf_start _⟩
      | succ i ih =>
        obtain ⟨L, p, h⟩ := ih
        exact ⟨_, _, mf_step h (Nat.le_refl _) (Or.inl rfl)⟩
    exact hrun _
  obtain ⟨L, p, hL⟩ := ra m h hseed rfl
  have hR := mf_end hL (Nat.le_refl _) (Or.inl rfl)
  rw [← hR m' h1 h2 h3, hR m h hseed rfl]
/-- A manifest's bytes are sealed. -/
theorem good_sealed {s : ByteArray} (h : GoodM s) : opOk s = true := by
  obtain ⟨m, -, rfl⟩ := h
  exact opOk_seal _
theorem num_more {a x : ByteArray} {p n : Nat} (h : p + n ≤ a.size) : num (a ++ x) p n = num a p n := by
  have hl := sl_size a
  unfold num
  rw [sl_extbs (a ++ x), sl_extbs a, sl_append, List.drop_append_of_le_length (by omega), List.take_append_of_le_length (by rw [List.length_drop]; omega)]
theorem lvAt_more {a x : ByteArray} {p k : Nat} (h : p + 4 * k ≤ a.size) : lvAt (a ++ x) p k = lvAt a p k := by
  unfold lvAt
  apply List.map_congr_left
  intro j hj
  have := List.mem_range.1 hj
  rw [num_more (by omega)]
/-- No manifest's bytes have another one's ahead. -/
theorem mf_ahead {a x : ByteArray} (h1 : GoodM a) (h2 : GoodM (a ++ x)) : x.size = 0 := by
  obtain ⟨m, ⟨hm, sm⟩, e1⟩ := h1
  obtain ⟨n, ⟨hn, sn⟩, e2⟩ := h2
  have za : 25 ≤ a.size := by rw [← e1, mfB_size]; omega
  have l1 := (mf_front hm sm e1).2.2.2
  have l2 := (mf_front hn sn e2).2.2.2
  rw [num_more (by omega)] at l2
  have hl : (trimL n.lv).length = (trimL m.lv).length := by omega
  have key : ∀ i, i ≤ (trimL m.lv).length → (trimL n.lv).take i = (trimL m.lv).take i := by
    intro i
    induction i with
    | zero => intro _; rfl
    | succ i ih =>
      intro hi
      have e := ih (by omega)
      obtain ⟨x1, hx1⟩ : ∃ x, (trimL m.lv)[i]? = some x := ⟨_, List.getElem?_eq_getElem hi⟩
      obtain ⟨x2, hx2⟩ : ∃ x, (trimL n.lv)[i]? = some x := ⟨_, List.getElem?_eq_getElem (show i < (trimL n.lv).length by omega)⟩
      obtain ⟨a1, a2, a3⟩ := mf_level hm e1 hx1
      obtain ⟨b1, b2, b3⟩ := mf_level hn e2 hx2
      have ep : place (trimL n.lv) i = place (trimL m.lv) i := by unfold place; rw [e]
      rw [ep, num_more (by omega), a1] at b1
      rw [ep, ← b1, lvAt_more (by omega), a2] at b2
      rw [List.take_add_one, List.take_add_one, e, hx1, hx2, b2]
  have eT : trimL n.lv = trimL m.lv := by
    have := key _ (Nat.le_refl _)
    rw [List.take_length] at this
    rw [← this, ← hl, List.take_length]
  have z1 := mfB_size m
  have z2 := mfB_size n
  rw [e1] at z1
  rw [e2, eT, ByteArray.size_append] at z2
  omega
end Go.Proofs.YtbhgngimebecdaaGreat

/- MfTake -/
namespace Go.Proofs.YtbhgngimebecdaaGreat
open Go.RowKit
set_option linter.unusedVariables false
set_option maxRecDepth 100000

/-- What is left of bytes from a place on. -/
def restAt (s : ByteArray) (p : Nat) : ByteArray := s.extract p s.size
theorem restAt_size (s : ByteArray) (p : Nat) : (restAt s p).size = s.size - p := by unfold restAt; rw [ByteArray.size_extract]; omega
theorem restAt_zero (s : ByteArray) : restAt s 0 = s := by
  unfold restAt
  have hl := sl_size s
  rw [sl_extbs, List.drop_zero, List.take_of_length_le (by omega), bs_data]
theorem restAt_list (s : ByteArray) (p : Nat) : (restAt s p).data.toList = s.data.toList.drop p := by
  unfold restAt
  have hl := sl_size s
  rw [sl_ext, List.take_of_length_le (by rw [List.length_drop]; omega)]
theorem take_num (s : ByteArray) (p k : Nat) : getS ((restAt s p).extract 0 (min k (restAt s p).size)) = num s p k := by
  unfold num
  congr 1
  rw [sl_extbs, sl_extbs s p, restAt_list, restAt_size, List.drop_zero, Nat.sub_zero, show p + k - p = k by omega]
  congr 1
  have hl := sl_size s
  rcases Nat.lt_or_ge k (s.size - p) with c | c
  · rw [Nat.min_eq_left (by omega)]
  · rw [Nat.min_eq_right c, List.take_of_length_le (by rw [List.length_drop]; omega), List.take_of_length_le (by rw [List.length_drop]; omega)]
theorem take_rest (s : ByteArray) (p k : Nat) : (restAt s p).extract (min k (restAt s p).size) (restAt s p).size = restAt s (p + k) := by
  have hl := sl_size s
  have hr := restAt_size s p
  rw [← bs_data ((restAt s p).extract _ _), ← bs_data (restAt s (p + k)), sl_ext, restAt_list, restAt_list]
  congr 1
  rw [List.drop_drop, List.take_of_length_le (by rw [List.length_drop]; omega)]
  rcases Nat.lt_or_ge k (restAt s p).size with c | c
  · rw [Nat.min_eq_left (by omega)]
  · rw [Nat.min_eq_right c, List.drop_eq_nil_of_le (by omega), List.drop_eq_nil_of_le (by omega)]
theorem ext_all (r : ByteArray) : r.extract 0 r.size = r := by
  have hl := sl_size r
  rw [sl_extbs, List.drop_zero, List.take_of_length_le (by omega), bs_data]
theorem ext_none (r : ByteArray) : r.extract r.size r.size = ByteArray.empty := by
  rw [sl_extbs, Nat.sub_self, List.take_zero]
  rfl
def TakeEnd (w : World) (g : Nat) (x : Nat) (t : ByteArray) (e : Ending) (w' : World) : Prop := e = .returned (.int .u64 (x : Nat)) ∧ w' = w.setCell ⟨g, 0, none⟩ (.string t)
set_option maxHeartbeats 1000000 in
theorem take_raw (r : ByteArray) (k g : Nat) (w : World) (hk : 1 ≤ k) (hk8 : k ≤ 8) (hr : r.size ≤ 1100000) (h0 : w.cell? ⟨g, 0, none⟩ = some (.string r)) (h1 : w.frozen? ⟨g, 0, none⟩ = false) :
    Calls Tryz.prog 90 #[.pointer (some ⟨g, 0, none⟩), .int .i64 (k : Nat)] w (TakeEnd w g (getS (r.extract 0 (min k r.size))) (r.extract (min k r.size) r.size)) := by
  have HG := Lib.hid (fun (m : Nat) => get_any (r.extract 0 m) w (by rw [ByteArray.size_extract]; unfold maxLen; omega))
  unfold TakeEnd
  obtain ⟨z, hz⟩ : ∃ z, z = r.size := ⟨_, rfl⟩
  rw [← hz] at hr ⊢
  rcases Nat.lt_trichotomy k z with c | c | c
  · rw [Nat.min_eq_left (by omega)]
    have HG1 := Lib.hid (HG.out k)
    clear HG
    subst hz
    go_enter Tryz.func90, Tryz.ntmps90
    go_wp2_with fail
    refine HG1.out.mono ?_
    rintro e w' ⟨rfl, rfl⟩
    go_wp2
    go_ret
    exact ⟨rfl, rfl⟩
  · obtain rfl : k = z := c
    rw [Nat.min_self]
    have HG1 := Lib.hid (HG.out k)
    clear HG
    subst hz
    rw [ext_all] at HG1 ⊢
    rw [ext_none]
    go_enter Tryz.func90, Tryz.ntmps90
    go_wp2_with fail
    refine HG1.out.mono ?_
    rintro e w' ⟨rfl, rfl⟩
    go_wp2
    go_ret
    exact ⟨rfl, rfl⟩
  · rw [Nat.min_eq_right (by omega)]
    have HG1 := Lib.hid (HG.out z)
    clear HG
    by_cases hz0 : z = 0
    · subst hz0
      have hr0 : r = ByteArray.empty := by
        have : r.data.toList = [] := List.length_eq_zero_iff.1 (by rw [sl_size]; exact hz.symm)
        rw [← bs_data r, this]
        rfl
      subst hr0
      have e1 : ByteArray.empty.extract 0 0 = ByteArray.empty := by rw [sl_extbs]; rfl
      rw [e1] at HG1 ⊢
      clear e1 hz
      go_enter Tryz.func90, Tryz.ntmps90
      go_wp2_with fail
      refine HG1.out.mono ?_
      rintro e w' ⟨rfl, rfl⟩
      go_wp2
      go_ret
      exact ⟨rfl, rfl⟩
    · subst hz
      rw [ext_all] at HG1 ⊢
      rw [ext_none]
      go_enter Tryz.func90, Tryz.ntmps90
      go_wp2_with fail
      refine HG1.out.mono ?_
      rintro e w' ⟨rfl, rfl⟩
      go_wp2
      go_ret
      exact ⟨rfl, rfl⟩
theorem take_any (s : ByteArray) (p k g : Nat) (w : World) (hk : 1 ≤ k) (hk8 : k ≤ 8) (hs : s.size ≤ 1100000) (h0 : w.cell? ⟨g, 0, none⟩ = some (.string (restAt s p))) (h1 : w.frozen? ⟨g, 0, none⟩ = false) :
    Calls Tryz.prog 90 #[.pointer (some ⟨g, 0, none⟩), .int .i64 (k : Nat)] w (TakeEnd w g (num s p k) (restAt s (p + k))) := by
  have h := take_raw (restAt s p) k g w hk hk8 (by rw [restAt_size]; omega) h0 h1
  rw [take_num, take_rest] at h
  exact h
end Go.Proofs.YtbhgngimebecdaaGreat

/- MfNumRef -/
namespace Go.Proofs.YtbhgngimebecdaaGreat
open Go.RowKit
set_option linter.unusedVariables false
set_option maxRecDepth 100000

/-- The number of so many bytes; 0 behind the end. -/
def numD (s : ByteArray) (p n : Nat) : Nat := if s.size < p + n then 0 else num s p n
theorem numD_yes {s : ByteArray} {p n : Nat} (h : p + n ≤ s.size) : numD s p n = num s p n := by unfold numD; rw [if_neg (by omega)]
theorem numD_no {s : ByteArray} {p n : Nat} (h : s.size < p + n) : numD s p n = 0 := by unfold numD; rw [if_pos h]
def NumEnd (w : World) (x : Nat) (e : Ending) (w' : World) : Prop := e = .returned (.int .u64 (x : Nat)) ∧ w' = w
theorem number_any (s : ByteArray) (p n : Nat) (w : World) (hs : s.size ≤ 100000) (hp1 : 1 ≤ p) (hp : p ≤ 200000) (hn1 : 1 ≤ n) (hn : n ≤ 8) :
    Calls Tryz.prog 49 #[.string s, .int .i64 (p : Nat), .int .i64 (n : Nat)] w (NumEnd w (numD s p n)) := by
  obtain ⟨z, hz⟩ : ∃ z, z = s.size := ⟨_, rfl⟩
  by_cases h : z < p + n
  · rw [numD_no (by omega)]
    unfold NumEnd
    have q1 : (z : Int) < (p : Int) + (n : Int) := by omega
    subst hz
    go_enter Tryz.func49, Tryz.ntmps49
    go_wp2
    go_ret
    exact ⟨rfl, rfl⟩
  · rw [numD_yes (by omega)]
    have HG := Lib.hid (get_ref (s.extract p (p + n)) w (by rw [ByteArray.size_extract]; unfold maxLen; omega))
    unfold NumEnd num
    have q1 : ¬ (z : Int) < (p : Int) + (n : Int) := by omega
    have q2 : p + n ≤ z := by omega
    generalize getS (s.extract p (p + n)) = x at *
    subst hz
    go_enter Tryz.func49, Tryz.ntmps49
    go_wp2_with fail
    refine HG.out.mono ?_
    rintro e w' ⟨rfl, rfl⟩
    go_wp2
    go_ret
    exact ⟨rfl, rfl⟩
end Go.Proofs.YtbhgngimebecdaaGreat

/- SealOneRef -/
namespace Go.Proofs.YtbhgngimebecdaaGreat
open Go.RowKit
set_option linter.unusedVariables false

theorem tail_list (l : List UInt8) : tailS l = [UInt8.ofNat (sumS l), UInt8.ofNat (sumS l / 256), UInt8.ofNat (sumS l / 65536), UInt8.ofNat (sumS l / 16777216)] := by
  have p1 : (256 : Nat) ^ 1 = 256 := by decide
  have p2 : (256 : Nat) ^ 2 = 65536 := by decide
  have p3 : (256 : Nat) ^ 3 = 16777216 := by decide
  simp only [tailS, be, p1, p2, p3, Nat.pow_zero, Nat.div_one, List.reverse_cons, List.reverse_nil, List.nil_append, List.cons_append]

theorem conv_four {m : Nat} (hm : m < 4294967296) : ∀ wx : World, (convert 22 9 (.slice (some ⟨wx.heap.size, 0, none⟩) 4 4)).run Tryz.prog (wx.alloc (.cells #[.int .u8 ((m : Int) % 256), .int .u8 ((m : Int) / 256 % 256), .int .u8 ((m : Int) / 65536 % 256), .int .u8 ((m : Int) / 16777216)] 5)) = .ok (.string (bs [UInt8.ofNat m, UInt8.ofNat (m / 256), UInt8.ofNat (m / 65536), UInt8.ofNat (m / 16777216)])) (wx.alloc (.cells #[.int .u8 ((m : Int) % 256), .int .u8 ((m : Int) / 256 % 256), .int .u8 ((m : Int) / 65536 % 256), .int .u8 ((m : Int) / 16777216)] 5)) := fun wx => by
  refine run_convert_bytes_back (P := Tryz.prog) _ 22 9 5 ⟨wx.heap.size, 0, none⟩ 4 [UInt8.ofNat m, UInt8.ofNat (m / 256), UInt8.ofNat (m / 65536), UInt8.ofNat (m / 16777216)] Tryz.underlying22 Tryz.underlying5 Tryz.underlying9 (fun j hj => ?_)
  have e : (⟨wx.heap.size, 0, none⟩ : Addr).add j = ⟨wx.heap.size, j, none⟩ := by simp [Addr.add]; omega
  rw [e, World.cell?_alloc_at _ _ _ _ rfl]
  have hj' : j < 4 := hj
  match j, hj' with
  | 0, _ => simp
  | 1, _ => simp
  | 2, _ => simp
  | 3, _ => simp; omega

set_option maxHeartbeats 400000 in
theorem seal_ref (s : ByteArray) (w : World) (hs : s.size + 4 ≤ maxLen) :
    Calls Tryz.prog 76 #[.string s] w fun e w' => e = .returned (.string (sealS s)) ∧ Below w.heap.size w w' := by
  have h1 := Lib.hid (fun w => sum_ref s w (by omega))
  have ha := add_four s hs _ (tailS_length s.data.toList)
  have hl := sumS_lt s.data.toList
  unfold sealS
  rw [tail_list] at ha ⊢
  generalize sumS s.data.toList = n at *
  have hcv := conv_four hl
  generalize [UInt8.ofNat n, UInt8.ofNat (n / 256), UInt8.ofNat (n / 65536), UInt8.ofNat (n / 16777216)] = t at *
  unfold maxLen at hs
  go_enter Tryz.func76, Tryz.ntmps76
  go_wp2_with fail
  refine (h1.out _).mono ?_
  rintro e w' ⟨rfl, rfl⟩
  go_wp2
  go_ret
  exact ⟨rfl, (Below.refl _ _).alloc (Nat.le_refl _) _⟩
end Go.Proofs.YtbhgngimebecdaaGreat

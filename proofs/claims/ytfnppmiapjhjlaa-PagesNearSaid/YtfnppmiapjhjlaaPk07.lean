/- Zeros, SumsIntoRef, SealOneRef, NumsPutRef, PgRef -/
import Derived.Test.YtfnppmiapjhjlaaPk02
import Derived.Test.YtfnppmiapjhjlaaPk01
import Derived.Test.YtfnppmiapjhjlaaPk03
import Derived.Test.YtfnppmiapjhjlaaPk05
import Derived.Lib.Hide
import Derived.Deep.RegionWith
import Derived.Deep.DeepMust
/- Zeros -/
namespace Go.Proofs.Ytfnppmiapjhjlaa
open Go.RowKit
set_option linter.unusedVariables false

theorem make_zeros (k : Nat) (hk : k ≤ 10000) : ∃ Z : Array Value, (∀ w : World, (Instr.makeSlice 36 (.int .i64 (k : Nat)) (.int .i64 (k : Nat))).run Try.prog w = .ok (.slice (some ⟨w.heap.size, 0, none⟩) k k) (w.alloc (.cells Z 5))) ∧
    ∀ w : World, (convert 36 9 (.slice (some ⟨w.heap.size, 0, none⟩) k k)).run Try.prog (w.alloc (.cells Z 5)) = .ok (.string (bs (List.replicate k 0))) (w.alloc (.cells Z 5)) := by
  refine ⟨madeCells #[.int .u8 0] k, run_make_row' (P := Try.prog) 36 5 (.int .u8 0) 1 Try.underlying36 (by kernel_rfl) rfl .i64 .i64 k (by omega) (by omega), fun w => ?_⟩
  have hrow := World.rowIs_made w (.int .u8 0) k 5
  have h := run_convert_bytes_back (P := Try.prog) (w.alloc (.cells (madeCells #[.int .u8 0] k) 5)) 36 9 5 ⟨w.heap.size, 0, none⟩ k (List.replicate k 0) Try.underlying36 Try.underlying5 Try.underlying9
    (fun j hj => by
      rw [List.length_replicate] at hj
      have e : (⟨w.heap.size, 0, none⟩ : Addr).add j = ⟨w.heap.size, j, none⟩ := by simp [Addr.add]; omega
      rw [List.getElem_replicate, e]
      exact hrow.cell hj)
  rw [List.length_replicate] at h
  exact h

/-- A text of zeros and what is answered of it, for any size of what is ahead. -/
def Zer (k : Nat) (p : ByteArray) (Z : Array Value) : Prop :=
  p.size = k ∧
  (∀ w : World, (Instr.makeSlice 36 (.int .i64 (k : Nat)) (.int .i64 (k : Nat))).run Try.prog w = .ok (.slice (some ⟨w.heap.size, 0, none⟩) k k) (w.alloc (.cells Z 5))) ∧
  ∀ w : World, (convert 36 9 (.slice (some ⟨w.heap.size, 0, none⟩) k k)).run Try.prog (w.alloc (.cells Z 5)) = .ok (.string p) (w.alloc (.cells Z 5))
theorem zer_any (k : Nat) (hk : k ≤ 10000) : ∃ p Z, Zer k p Z := by
  obtain ⟨Z, h1, h2⟩ := make_zeros k hk
  exact ⟨_, Z, by rw [bs_size, List.length_replicate], h1, h2⟩
end Go.Proofs.Ytfnppmiapjhjlaa

/- SumsIntoRef -/
namespace Go.Proofs.Ytfnppmiapjhjlaa
open Go.RowKit
set_option linter.unusedVariables false

/-- The document's state, when k of the byte's bits went in. -/
def refS (x c k : Nat) : Nat := stk k (x ^^^ c % 2 ^ k)
theorem refS_zero (x c : Nat) : refS x c 0 = x := by simp [refS, stk, Nat.mod_one]
theorem refS_all (x c : Nat) (hc : c < 256) : refS x c 8 = intoS x c := by
  unfold refS intoS
  rw [show c % 2 ^ 8 = c from Nat.mod_eq_of_lt hc]
theorem refS_lt (x c k : Nat) (hx : x < 4294967296) (hc : c < 256) : refS x c k < 4294967296 := by
  have h1 := Nat.mod_le c (2 ^ k)
  exact stk_lt k (xor_lt hx (by omega))
theorem mod_step (c k : Nat) : c % 2 ^ (k + 1) = c % 2 ^ k ^^^ 2 ^ k * (c / 2 ^ k % 2) := by
  have hl : c % 2 ^ k < 2 ^ k := Nat.mod_lt _ (Nat.two_pow_pos k)
  apply Nat.eq_of_testBit_eq
  intro i
  have h0 := Nat.testBit_two_pow_mul_add (c / 2 ^ k % 2) (b := 0) (i := k) (Nat.two_pow_pos k) i
  rw [Nat.add_zero] at h0
  rw [Nat.testBit_xor, h0, Nat.testBit_mod_two_pow, Nat.testBit_mod_two_pow, Nat.zero_testBit]
  by_cases h1 : i < k
  · simp [h1, show i < k + 1 by omega]
  · by_cases h2 : i = k
    · subst h2
      have h3 : (c / 2 ^ i % 2).testBit 0 = c.testBit i := by
        rw [Nat.testBit_zero, Nat.testBit_eq_decide_div_mod_eq]
        simp
      simp [h3]
    · have h3 : i - k ≠ 0 := by omega
      have h4 : (c / 2 ^ k % 2).testBit (i - k) = false := by
        apply Nat.testBit_lt_two_pow
        have h5 : 2 ^ 1 ≤ 2 ^ (i - k) := Nat.pow_le_pow_right (by decide) (by omega)
        have h6 : c / 2 ^ k % 2 < 2 := Nat.mod_lt _ (by decide)
        omega
      simp [h1, h4, show ¬ i < k + 1 by omega]
theorem stp_bit (y b : Nat) (hb : b < 2) : stp (y ^^^ b) = y / 2 ^^^ ((y + b) % 2 * 3988292384) := by
  unfold stp
  have h1 : (y ^^^ b) / 2 = y / 2 ^^^ b / 2 := Nat.xor_div_two
  have h2 : (y ^^^ b) % 2 = y % 2 ^^^ b % 2 := Nat.xor_mod_two_pow (n := 1)
  have h3 : b / 2 = 0 := by omega
  rw [h3, Nat.xor_zero] at h1
  rw [h1, h2]
  congr 2
  have e1 : (y + b) % 2 = (y % 2 + b) % 2 := by omega
  have e2 : b % 2 = b := by omega
  rw [e1, e2]
  have h4 : y % 2 < 2 := Nat.mod_lt _ (by decide)
  generalize y % 2 = r at *
  match r, b, h4, hb with
  | 0, 0, _, _ => rfl
  | 0, 1, _, _ => rfl
  | 1, 0, _, _ => rfl
  | 1, 1, _, _ => rfl
theorem refS_step (x c k : Nat) : refS x c (k + 1) = refS x c k / 2 ^^^ ((refS x c k + c / 2 ^ k) % 2 * 3988292384) := by
  have h : (refS x c k + c / 2 ^ k) % 2 = (refS x c k + c / 2 ^ k % 2) % 2 := by omega
  rw [h, ← stp_bit _ _ (Nat.mod_lt _ (by decide))]
  unfold refS
  rw [stk_one, mod_step, ← Nat.xor_assoc, stk_xor k, stk_shift]
theorem refS_one {x c k : Nat} (hx : refS x c k < 4294967296) (h : (((refS x c k : Nat) : Int) + (c : Int) / 2 ^ k) % 2 = 1) : bits .xor .u32 (((refS x c k : Nat) : Int) / 2) 3988292384 = ((refS x c (k + 1) : Nat) : Int) := by
  have e : (c : Int) / 2 ^ k = ((c / 2 ^ k : Nat) : Int) := by rw [Int.natCast_ediv, Int.natCast_pow]; rfl
  rw [e] at h
  rw [refS_step]
  generalize refS x c k = y at *
  generalize c / 2 ^ k = z at *
  have h1 : (y + z) % 2 = 1 := by omega
  have h3 : (y : Int) / 2 = ((y / 2 : Nat) : Int) := by omega
  rw [h1, Nat.one_mul, h3]
  exact u32_xor_nat _ _ (by omega) (by decide)
theorem refS_nought {x c k : Nat} (h : ¬ (((refS x c k : Nat) : Int) + (c : Int) / 2 ^ k) % 2 = 1) : ((refS x c k : Nat) : Int) / 2 = ((refS x c (k + 1) : Nat) : Int) := by
  have e : (c : Int) / 2 ^ k = ((c / 2 ^ k : Nat) : Int) := by rw [Int.natCast_ediv, Int.natCast_pow]; rfl
  rw [e] at h
  rw [refS_step]
  generalize refS x c k = y at *
  generalize c / 2 ^ k = z at *
  have h1 : (y + z) % 2 = 0 := by omega
  rw [h1, Nat.zero_mul, Nat.xor_zero]
  omega

set_option maxHeartbeats 400000 in
theorem into_ref (x c : Nat) (w : World) (hx : x < 4294967296) (hc : c < 256) :
    Calls Try.prog 62 #[.int .u32 (x : Nat), .int .u8 (c : Nat)] w fun e w' => e = .returned (.int .u32 (intoS x c : Nat)) ∧ w = w' := by
  go_enter Try.func62, Try.ntmps62
  go_wp2
  go_loop [0, 5] (fun a i => ∃ k : Nat, k ≤ 8 ∧ i = .int .i64 k ∧ a = .int .u32 (refS x c k : Nat)) (fun _ i => 8 - (intOf i).toNat)
  case atStart => exact ⟨0, by omega, rfl, by rw [refS_zero]⟩
  case round =>
    obtain ⟨k, hk, rfl, rfl⟩ := hrel
    by_cases hlt : k < 8
    · have hy := refS_lt x c k hx hc
      have h1 := Lib.hid (refS_one hy)
      have h2 := Lib.hid (refS_nought (x := x) (c := c) (k := k))
      generalize refS x c k = y at *
      go_wp2
      · go_round
        case rel => exact ⟨k + 1, by omega, by go_num, val_u32 (h1.out (beq_iff_eq.1 (by assumption)))⟩
        case measure => simp [intOf]; omega
      · go_round
        case rel => exact ⟨k + 1, by omega, by go_num, val_u32 (h2.out (beq_eq_false_iff_ne.1 (by assumption)))⟩
        case measure => simp [intOf]; omega
    · obtain rfl : k = 8 := by omega
      have h := Lib.hid (refS_all x c hc)
      go_wp2
      go_ret
      exact ⟨ret_u32 (by rw [h.out]), rfl⟩

set_option maxHeartbeats 400000 in
theorem more_ref (x : Nat) (s : ByteArray) (w : World) (hx : x < 4294967296) (hs : s.size ≤ maxLen) :
    Calls Try.prog 55 #[.int .u32 (x : Nat), .string s] w fun e w' => e = .returned (.int .u32 (moreS x s.data.toList : Nat)) ∧ w = w' := by
  unfold maxLen at hs
  go_enter Try.func55, Try.ntmps55
  go_wp2
  go_loop [5, 6] (fun a i => ∃ k : Nat, k ≤ s.size ∧ i = .int .i64 k ∧ a = .int .u32 (foldS (4294967295 - x) (s.data.toList.take k) : Nat)) (fun _ i => s.size - (intOf i).toNat)
  case atStart => exact ⟨0, by omega, rfl, val_u32 (by rw [List.take_zero, foldS_nil]; omega)⟩
  case round =>
    obtain ⟨k, hk, rfl, rfl⟩ := hrel
    have hy : foldS (4294967295 - x) (s.data.toList.take k) < 4294967296 := foldS_lt _ (by omega)
    by_cases hlt : k < s.size
    · have h1 := Lib.hid (take_snoc s k hlt)
      have h2 := Lib.hid (foldS_snoc (4294967295 - x) (s.data.toList.take k) s[k])
      have hc := (s[k]).toNat_lt
      generalize foldS (4294967295 - x) (s.data.toList.take k) = y at *
      go_wp2_with fail
      refine (into_ref y _ _ hy hc).mono ?_
      rintro e w' ⟨rfl, rfl⟩
      go_wp2
      go_round
      case rel => exact ⟨k + 1, by omega, by go_num, val_u32 (by rw [h1.out, h2.out])⟩
      case measure => simp [intOf]; omega
    · obtain rfl : k = s.size := by omega
      have h1 : List.take s.size s.data.toList = s.data.toList := List.take_of_length_le (by simp)
      have hm : moreS x s.data.toList = 4294967295 - foldS (4294967295 - x) s.data.toList := rfl
      rw [h1] at hy ⊢
      clear h1
      generalize foldS (4294967295 - x) s.data.toList = y at *
      have Hm := Lib.hid hm
      clear hm
      go_wp2
      go_ret
      exact ⟨ret_u32 (by rw [Hm.out]; omega), rfl⟩

theorem sum_ref (s : ByteArray) (w : World) (hs : s.size ≤ maxLen) :
    Calls Try.prog 43 #[.string s] w fun e w' => e = .returned (.int .u32 (sumS s.data.toList : Nat)) ∧ w = w' := by
  have h := Lib.hid (fun w => more_ref 0 s w (by decide) hs)
  unfold maxLen at hs
  go_enter Try.func43, Try.ntmps43
  go_wp2_with fail
  refine (h.out _).mono ?_
  rintro e w' ⟨rfl, rfl⟩
  go_wp2
  go_ret
  exact ⟨rfl, rfl⟩
end Go.Proofs.Ytfnppmiapjhjlaa

/- SealOneRef -/
namespace Go.Proofs.Ytfnppmiapjhjlaa
open Go.RowKit
set_option linter.unusedVariables false

theorem tail_list (l : List UInt8) : tailS l = [UInt8.ofNat (sumS l), UInt8.ofNat (sumS l / 256), UInt8.ofNat (sumS l / 65536), UInt8.ofNat (sumS l / 16777216)] := by
  have p1 : (256 : Nat) ^ 1 = 256 := by decide
  have p2 : (256 : Nat) ^ 2 = 65536 := by decide
  have p3 : (256 : Nat) ^ 3 = 16777216 := by decide
  simp only [tailS, be, p1, p2, p3, Nat.pow_zero, Nat.div_one, List.reverse_cons, List.reverse_nil, List.nil_append, List.cons_append]

theorem conv_four {m : Nat} (hm : m < 4294967296) : ∀ wx : World, (convert 36 9 (.slice (some ⟨wx.heap.size, 0, none⟩) 4 4)).run Try.prog (wx.alloc (.cells #[.int .u8 ((m : Int) % 256), .int .u8 ((m : Int) / 256 % 256), .int .u8 ((m : Int) / 65536 % 256), .int .u8 ((m : Int) / 16777216)] 5)) = .ok (.string (bs [UInt8.ofNat m, UInt8.ofNat (m / 256), UInt8.ofNat (m / 65536), UInt8.ofNat (m / 16777216)])) (wx.alloc (.cells #[.int .u8 ((m : Int) % 256), .int .u8 ((m : Int) / 256 % 256), .int .u8 ((m : Int) / 65536 % 256), .int .u8 ((m : Int) / 16777216)] 5)) := fun wx => by
  refine run_convert_bytes_back (P := Try.prog) _ 36 9 5 ⟨wx.heap.size, 0, none⟩ 4 [UInt8.ofNat m, UInt8.ofNat (m / 256), UInt8.ofNat (m / 65536), UInt8.ofNat (m / 16777216)] Try.underlying36 Try.underlying5 Try.underlying9 (fun j hj => ?_)
  have e : (⟨wx.heap.size, 0, none⟩ : Addr).add j = ⟨wx.heap.size, j, none⟩ := by simp [Addr.add]; omega
  rw [e, World.cell?_alloc_at _ _ _ _ rfl]
  have hj' : j < 4 := hj
  match j, hj' with
  | 0, _ => simp
  | 1, _ => simp
  | 2, _ => simp
  | 3, _ => simp; omega

set_option maxHeartbeats 400000 in
theorem seal_ref (s : ByteArray) (w : World) (hs : s.size + 4 ≤ maxLen) :
    Calls Try.prog 28 #[.string s] w fun e w' => e = .returned (.string (sealS s)) ∧ Below w.heap.size w w' := by
  have h1 := Lib.hid (fun w => sum_ref s w (by omega))
  have ha := add_four s hs _ (tailS_length s.data.toList)
  have hl := sumS_lt s.data.toList
  unfold sealS
  rw [tail_list] at ha ⊢
  generalize sumS s.data.toList = n at *
  have hcv := conv_four hl
  generalize [UInt8.ofNat n, UInt8.ofNat (n / 256), UInt8.ofNat (n / 65536), UInt8.ofNat (n / 16777216)] = t at *
  unfold maxLen at hs
  go_enter Try.func28, Try.ntmps28
  go_wp2_with fail
  refine (h1.out _).mono ?_
  rintro e w' ⟨rfl, rfl⟩
  go_wp2
  go_ret
  exact ⟨rfl, (Below.refl _ _).alloc (Nat.le_refl _) _⟩
end Go.Proofs.Ytfnppmiapjhjlaa

/- NumsPutRef -/
namespace Go.Proofs.Ytfnppmiapjhjlaa
open Go.RowKit
set_option linter.unusedVariables false

theorem putr_none (n : Nat) (size : Int) (w : World) (h : size < 1 ∨ 8 < size) :
    Calls Try.prog 42 #[.int .u64 (n : Nat), .int .i64 size] w fun e w' => e = .returned (.string ByteArray.empty) ∧ w = w' := by
  rcases h with h | h
  all_goals
    go_enter Try.func42, Try.ntmps42
    go_wp2
    go_ret
    exact ⟨rfl, rfl⟩

theorem conv_one {m : Nat} : ∀ wx : World, (convert 36 9 (.slice (some ⟨wx.heap.size, 0, none⟩) 1 1)).run Try.prog (wx.alloc (.cells #[.int .u8 ((m : Int) % 256)] 5)) = .ok (.string (bs [UInt8.ofNat m])) (wx.alloc (.cells #[.int .u8 ((m : Int) % 256)] 5)) := fun wx => by
  refine run_convert_bytes_back (P := Try.prog) _ 36 9 5 ⟨wx.heap.size, 0, none⟩ 1 [UInt8.ofNat m] Try.underlying36 Try.underlying5 Try.underlying9 (fun j hj => ?_)
  obtain rfl : j = 0 := by simpa using hj
  have e : (⟨wx.heap.size, 0, none⟩ : Addr).add 0 = ⟨wx.heap.size, 0, none⟩ := by simp [Addr.add]
  rw [e, World.cell?_alloc_at _ _ _ _ rfl]
  simp

set_option maxHeartbeats 400000 in
theorem putr_some (n N : Nat) (w : World) (h1 : 1 ≤ N) (h8 : N ≤ 8) (hn : n < 18446744073709551616) :
    Calls Try.prog 42 #[.int .u64 (n : Nat), .int .i64 (N : Nat)] w fun e w' => e = .returned (.string (bs (be N n))) ∧ Below w.heap.size w w' := by
  go_enter Try.func42, Try.ntmps42
  go_wp2
  go_loopw [0, 5, 6] (fun m s i wr => ∃ k : Nat, k ≤ N ∧ i = .int .i64 k ∧ m = .int .u64 (n / 256 ^ k : Nat) ∧ s = .string (bs (be k n)) ∧ Below w.heap.size w wr) (fun _ _ i _ => N - (intOf i).toNat)
  case atStart => exact ⟨0, Nat.zero_le _, rfl, by simp, rfl, Below.refl _ _⟩
  case round =>
    obtain ⟨k, hk, rfl, rfl, rfl, hbel⟩ := hrel
    by_cases hlt : k < N
    · obtain ⟨m, hm⟩ : ∃ m, n / 256 ^ k = m := ⟨_, rfl⟩
      have hb : UInt8.ofNat m :: be k n = be (k + 1) n := by rw [be, hm]
      have hm2 : n / 256 ^ (k + 1) = m / 256 := by rw [Nat.pow_succ, ← Nat.div_div_eq_div_mul, hm]
      have hcv := conv_one (m := m)
      have hadd : ∀ wx : World, (Op.stringOp .add (bs [UInt8.ofNat m]) (bs (be k n))).run Try.prog wx = .ok (.string (bs (be (k + 1) n))) wx := fun wx => by
        have h := run_string_add_sum (P := Try.prog) (w := wx) (bs [UInt8.ofNat m]) (bs (be k n)) (by rw [bs_size, bs_size, be_length]; simp; omega)
        rw [bs_append, List.singleton_append, hb] at h
        exact h
      have hm64 : m ≤ 18446744073709551615 := by rw [← hm]; exact Nat.le_trans (Nat.div_le_self _ _) (by omega)
      rw [hm]
      have Hm := Lib.hid hm2
      clear hm hm2 hb
      go_wp2
      go_roundw
      case rel => exact ⟨k + 1, by omega, by go_num, by rw [Hm.out]; go_num, rfl, hbel.alloc hbel.size _⟩
      case measure => simp [intOf]; omega
    · obtain rfl : k = N := by omega
      go_wp2
      go_ret
      exact ⟨rfl, hbel⟩

theorem putr_any (n : Nat) (size : Int) (w : World) (hn : n < 18446744073709551616) :
    Calls Try.prog 42 #[.int .u64 (n : Nat), .int .i64 size] w fun e w' => e = .returned (.string (putS n size)) ∧ Below w.heap.size w w' := by
  unfold putS
  by_cases h : 1 ≤ size ∧ size ≤ 8
  · rw [if_pos h]
    obtain ⟨N, rfl⟩ : ∃ N : Nat, size = N := ⟨size.toNat, by omega⟩
    exact putr_some n N w (by omega) (by omega) hn
  · rw [if_neg h]
    exact (putr_none n size w (by omega)).mono fun e w' ⟨he, hw⟩ => ⟨he, hw ▸ Below.refl _ _⟩
end Go.Proofs.Ytfnppmiapjhjlaa

/- PgRef -/
namespace Go.Proofs.Ytfnppmiapjhjlaa
open Go.RowKit
set_option linter.unusedVariables false

theorem pmay_ref (n p : Int) (w : World) :
    Calls Try.prog 26 #[.int .i64 n, .int .i64 p] w fun e w' => e = .returned (.bool (pgOk n p)) ∧ w = w' := by
  have hiff := @pgOk_iff n p
  generalize pgOk n p = q at *
  by_cases h1 : 60 ≤ n
  · have d1 : decide (60 ≤ n) = true := decide_eq_true h1
    by_cases h2 : n ≤ 120000
    · have d2 : decide (n ≤ 120000) = true := decide_eq_true h2
      have h0 : 0 ≤ n := by omega
      by_cases hr : n % 60 = 0
      · have e1 : (n % 60 == 0) = true := by rw [hr]; rfl
        have e2 : (n.tmod 60 == 0) = true := by rw [Int.tmod_eq_emod_of_nonneg h0]; exact e1
        by_cases hp1 : 1 ≤ p
        · have d3 : decide (1 ≤ p) = true := decide_eq_true hp1
          by_cases hp2 : p ≤ 16
          · obtain rfl : q = true := hiff.2 (by omega)
            have d4 : decide (p ≤ 16) = true := decide_eq_true hp2
            clear hiff
            go_enter Try.func26, Try.ntmps26
            go_wp2
            go_ret
            exact ⟨rfl, rfl⟩
          · obtain rfl : q = false := Bool.eq_false_iff.2 (fun e => by have := hiff.1 e; omega)
            have d4 : decide (p ≤ 16) = false := decide_eq_false hp2
            clear hiff
            go_enter Try.func26, Try.ntmps26
            go_wp2
            go_ret
            exact ⟨rfl, rfl⟩
        · obtain rfl : q = false := Bool.eq_false_iff.2 (fun e => by have := hiff.1 e; omega)
          have d3 : decide (1 ≤ p) = false := decide_eq_false hp1
          clear hiff
          go_enter Try.func26, Try.ntmps26
          go_wp2
          go_ret
          exact ⟨rfl, rfl⟩
      · obtain rfl : q = false := Bool.eq_false_iff.2 (fun e => by have := hiff.1 e; omega)
        have e1 : (n % 60 == 0) = false := by rw [beq_eq_false_iff_ne]; exact hr
        have e2 : (n.tmod 60 == 0) = false := by rw [Int.tmod_eq_emod_of_nonneg h0]; exact e1
        clear hiff hr
        go_enter Try.func26, Try.ntmps26
        go_wp2
        go_ret
        exact ⟨rfl, rfl⟩
    · obtain rfl : q = false := Bool.eq_false_iff.2 (fun e => by have := hiff.1 e; omega)
      have d2 : decide (n ≤ 120000) = false := decide_eq_false h2
      clear hiff
      go_enter Try.func26, Try.ntmps26
      go_wp2
      go_ret
      exact ⟨rfl, rfl⟩
  · obtain rfl : q = false := Bool.eq_false_iff.2 (fun e => by have := hiff.1 e; omega)
    have d1 : decide (60 ≤ n) = false := decide_eq_false h1
    clear hiff
    go_enter Try.func26, Try.ntmps26
    go_wp2
    go_ret
    exact ⟨rfl, rfl⟩
end Go.Proofs.Ytfnppmiapjhjlaa

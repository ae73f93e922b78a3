/- The walk of annalistlaw01.NumsBack. -/
import Derived.Test.YtlcdloljhcnchaaNumsPutEx
import Derived.Lib.IndexBytes
namespace Go.Proofs.Ytlcdloljhcnchaa.numsBackW
open Go.RowKit
set_option linter.unusedVariables false

theorem less_un : ∀ l m : List UInt8, l.length = m.length → Op.bytesLess l m = decide (un l < un m)
  | [], [], _ => by simp [Op.bytesLess, un]
  | [], _ :: _, h => by simp at h
  | _ :: _, [], h => by simp at h
  | c :: l, d :: m, h => by
    have hlm : l.length = m.length := by simpa using h
    rw [Op.bytesLess, less_un l m hlm, un_cons, un_cons, hlm]
    have h1 := un_lt l
    have h2 := un_lt m
    rw [hlm] at h1
    have hp : 0 < 256 ^ m.length := Nat.pow_pos (by decide)
    generalize 256 ^ m.length = P at *
    rw [Bool.eq_iff_iff]
    simp only [Bool.or_eq_true, Bool.and_eq_true, decide_eq_true_eq, beq_iff_eq]
    rcases Nat.lt_trichotomy c.toNat d.toNat with hcd | hcd | hcd
    · have : (c.toNat + 1) * P ≤ d.toNat * P := Nat.mul_le_mul_right _ hcd
      rw [Nat.add_mul] at this
      have hlt : c < d := UInt8.lt_iff_toNat_lt.2 hcd
      simp only [hlt, true_or, true_iff]
      omega
    · have hcd' : c = d := UInt8.toNat_inj.1 hcd
      subst hcd'
      simp
    · have : (d.toNat + 1) * P ≤ c.toNat * P := Nat.mul_le_mul_right _ hcd
      rw [Nat.add_mul] at this
      have hlt : ¬ c < d := fun x => by have := UInt8.lt_iff_toNat_lt.1 x; omega
      have hne : ¬ c = d := fun x => by rw [x] at hcd; omega
      simp only [hlt, hne, false_and, or_false, false_iff]
      omega

theorem getS_be (N n : Nat) (h : N ≤ 8) : getS (bs (be N n)) = n % 256 ^ N := by
  unfold getS
  have e : (bs (be N n)).data.toList = be N n := by simp [bs]
  rw [e, List.take_of_length_le (by rw [be_length]; omega), un_be]
theorem less_be (N a b : Nat) : Op.bytesLess (bs (be N a)).toList (bs (be N b)).toList = decide (((a % 256 ^ N : Nat) : Int) < ((b % 256 ^ N : Nat) : Int)) := by
  rw [Lib.toList_data, Lib.toList_data]
  have e : ∀ n, (bs (be N n)).data.toList = be N n := fun n => by simp [bs]
  rw [e, e, less_un _ _ (by rw [be_length, be_length]), un_be, un_be]
  generalize a % 256 ^ N = x
  generalize b % 256 ^ N = y
  rw [Bool.eq_iff_iff, decide_eq_true_iff, decide_eq_true_iff]
  omega

theorem shl_val (N : Nat) (h : N < 8) : IntKind.u64.wrap (2 ^ (8 * N)) = ((256 ^ N : Nat) : Int) := by
  have e : (2 : Int) ^ (8 * N) = ((256 ^ N : Nat) : Int) := by
    have e : (2 : Nat) ^ (8 * N) = 256 ^ N := by rw [Nat.pow_mul]
    rw [← e, Int.natCast_pow]; rfl
  have hle : 256 ^ N ≤ 256 ^ 7 := Nat.pow_le_pow_right (by decide) (by omega)
  have h7 : (256 : Nat) ^ 7 = 72057594037927936 := by decide
  rw [e]
  generalize 256 ^ N = P at *
  exact IntWalk.u64_in _ ⟨by omega, by omega⟩

theorem putS_getS (s : ByteArray) (h1 : 1 ≤ s.size) (h8 : s.size ≤ 8) : putS (getS s) (s.size : Nat) = s := by
  have hl : s.data.toList.length = s.size := Array.length_toList
  unfold putS getS
  rw [if_pos (by omega), List.take_of_length_le (by omega), Int.toNat_natCast, ← hl, be_un, bs_data]

set_option maxHeartbeats 1000000 in
theorem short (a b : Nat) (s : ByteArray) (ha : a < 18446744073709551616) (hb : b < 18446744073709551616) (hs : s.size ≤ maxLen) (w : World) :
    Calls Try.prog 5 #[.int .u64 (a : Nat), .int .u64 (b : Nat), .string s] w fun e w' => e = .returned (.bool true) ∧ Below w.heap.size w w' := by
  unfold maxLen at hs
  go_enter Try.func5, Try.ntmps5
  go_wp2_with fail
  go_loopw [7] (fun i wr => ∃ N : Nat, 1 ≤ N ∧ N ≤ 9 ∧ i = .int .i64 N ∧ Below w.heap.size w wr) (fun i _ => (10 - intOf i).toNat)
  case atStart => exact ⟨1, by omega, by omega, rfl, Below.refl _ _⟩
  case round =>
    obtain ⟨N, hN1, hN9, rfl, hbel⟩ := hrel
    by_cases hlt : N ≤ 8
    · have hpa := Lib.hid (fun w => put_some a N w hN1 hlt ha)
      have hpb := Lib.hid (fun w => put_some b N w hN1 hlt hb)
      have hga := Lib.hid (fun w => ex_get (bs (be N a)) _ (by rw [bs_size, be_length]; omega) (getS_be N a hlt) w)
      have hgb := Lib.hid (fun w => ex_get (bs (be N b)) _ (by rw [bs_size, be_length]; omega) (getS_be N b hlt) w)
      have hsz : (bs (be N a)).size = N := by rw [bs_size, be_length]
      have hless := less_be N a b
      by_cases h8 : N < 8
      · have hsh : IntKind.u64.wrap (2 ^ (8 * N)) = ((256 ^ N : Nat) : Int) := shl_val N h8
        have hp : 0 < 256 ^ N := Nat.pow_pos (by decide)
        have hmod : (a : Int) % ((256 ^ N : Nat) : Int) = ((a % 256 ^ N : Nat) : Int) := (Int.natCast_emod _ _).symm
        generalize bs (be N a) = x at *
        generalize bs (be N b) = y at *
        generalize 256 ^ N = P at *
        generalize a % P = ga at *
        generalize b % P = gb at *
        go_wp2_with fail
        refine (hpa.out _).mono ?_
        rintro e w1 ⟨rfl, hb1⟩
        go_wp2_with fail
        refine (hpb.out _).mono ?_
        rintro e w2 ⟨rfl, hb2⟩
        go_wp2_with fail
        refine (hga.out _).mono ?_
        rintro e w3 ⟨rfl, rfl⟩
        go_wp2_with fail
        refine (hga.out _).mono ?_
        rintro e w3 ⟨rfl, rfl⟩
        go_wp2_with fail
        refine (hgb.out _).mono ?_
        rintro e w3 ⟨rfl, rfl⟩
        go_wp2_with fail
        go_roundw
        case rel => exact ⟨N + 1, by omega, by omega, by go_num, hbel.trans ((bj hb1 hb2).mono hbel.size)⟩
        case measure => simp [intOf]; omega
      · have ea : a % 256 ^ N = a := Nat.mod_eq_of_lt (by rw [show N = 8 by omega]; exact ha)
        have eb : b % 256 ^ N = b := Nat.mod_eq_of_lt (by rw [show N = 8 by omega]; exact hb)
        rw [ea, eb] at hless
        rw [ea] at hga
        rw [eb] at hgb
        clear ea eb
        generalize bs (be N a) = x at *
        generalize bs (be N b) = y at *
        go_wp2_with fail
        refine (hpa.out _).mono ?_
        rintro e w1 ⟨rfl, hb1⟩
        go_wp2_with fail
        refine (hpb.out _).mono ?_
        rintro e w2 ⟨rfl, hb2⟩
        go_wp2_with fail
        refine (hga.out _).mono ?_
        rintro e w3 ⟨rfl, rfl⟩
        go_wp2_with fail
        refine (hga.out _).mono ?_
        rintro e w3 ⟨rfl, rfl⟩
        go_wp2_with fail
        refine (hgb.out _).mono ?_
        rintro e w3 ⟨rfl, rfl⟩
        go_wp2_with fail
        go_roundw
        case rel => exact ⟨N + 1, by omega, by omega, by go_num, hbel.trans ((bj hb1 hb2).mono hbel.size)⟩
        case measure => simp [intOf]; omega
    · by_cases h : s.size < 1 ∨ 8 < s.size
      · rcases h with h | h
        all_goals
          go_wp2_with fail
          refine (put_true _).mono ?_
          rintro e w1 ⟨rfl, hb1⟩
          go_wp2
          go_ret
          exact ⟨rfl, hbel.trans (hb1.mono hbel.size)⟩
      · have hg := Lib.hid (fun w => get_any s w (by unfold maxLen; omega))
        have hp := Lib.hid (fun w => ex_put (getS s) s.size s (getS_lt s) (putS_getS s (by omega) (by omega)) w)
        generalize getS s = g at *
        go_wp2_with fail
        refine (hg.out _).mono ?_
        rintro e w1 ⟨rfl, rfl⟩
        go_wp2_with fail
        refine (hp.out _).mono ?_
        rintro e w1 ⟨rfl, hb1⟩
        go_wp2_with fail
        refine (put_true _).mono ?_
        rintro e w2 ⟨rfl, hb2⟩
        go_wp2
        go_ret
        exact ⟨rfl, hbel.trans ((bj hb1 hb2).mono hbel.size)⟩

theorem walk (a0 a1 : Int) (a2 : ByteArray) (w0 : (Lit.int .u64 a0).wf = true) (w1 : (Lit.int .u64 a1).wf = true) (w2 : a2.size ≤ maxLen) (w : World) :
    Calls Try.prog 5 #[.int .u64 a0, .int .u64 a1, .string a2] w fun e w' => e = .returned (.bool true) ∧ Below w.heap.size w w' := by
  obtain ⟨a, rfl, ha⟩ := u64_nat w0
  obtain ⟨b, rfl, hb⟩ := u64_nat w1
  exact short a b a2 ha hb w2 w
end Go.Proofs.Ytlcdloljhcnchaa.numsBackW

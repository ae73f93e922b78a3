/- SealOneRef, NumsPutRef, RecPutRef, NumsGet, NumsGetRef -/
import Derived.Test.YtedbgimmbapfaaaGreatPk02
import Derived.Test.YtedbgimmbapfaaaGreatPk01
/- SealOneRef -/
namespace Go.Proofs.YtedbgimmbapfaaaGreat
open Go.RowKit
set_option linter.unusedVariables false

theorem tail_list (l : List UInt8) : tailS l = [UInt8.ofNat (sumS l), UInt8.ofNat (sumS l / 256), UInt8.ofNat (sumS l / 65536), UInt8.ofNat (sumS l / 16777216)] := by
  have p1 : (256 : Nat) ^ 1 = 256 := by decide
  have p2 : (256 : Nat) ^ 2 = 65536 := by decide
  have p3 : (256 : Nat) ^ 3 = 16777216 := by decide
  simp only [tailS, be, p1, p2, p3, Nat.pow_zero, Nat.div_one, List.reverse_cons, List.reverse_nil, List.nil_append, List.cons_append]

theorem conv_four {m : Nat} (hm : m < 4294967296) : ∀ wx : World, (convert 54 9 (.slice (some ⟨wx.heap.size, 0, none⟩) 4 4)).run Tryz.prog (wx.alloc (.cells #[.int .u8 ((m : Int) % 256), .int .u8 ((m : Int) / 256 % 256), .int .u8 ((m : Int) / 65536 % 256), .int .u8 ((m : Int) / 16777216)] 5)) = .ok (.string (bs [UInt8.ofNat m, UInt8.ofNat (m / 256), UInt8.ofNat (m / 65536), UInt8.ofNat (m / 16777216)])) (wx.alloc (.cells #[.int .u8 ((m : Int) % 256), .int .u8 ((m : Int) / 256 % 256), .int .u8 ((m : Int) / 65536 % 256), .int .u8 ((m : Int) / 16777216)] 5)) := fun wx => by
  refine run_convert_bytes_back (P := Tryz.prog) _ 54 9 5 ⟨wx.heap.size, 0, none⟩ 4 [UInt8.ofNat m, UInt8.ofNat (m / 256), UInt8.ofNat (m / 65536), UInt8.ofNat (m / 16777216)] Tryz.underlying54 Tryz.underlying5 Tryz.underlying9 (fun j hj => ?_)
  have e : (⟨wx.heap.size, 0, none⟩ : Addr).add j = ⟨wx.heap.size, j, none⟩ := by simp [Addr.add]; omega
  rw [e, World.cell?_alloc_at _ _ _ _ rfl]
  have hj' : j < 4 := hj
  match j, hj' with
  | 0, _ => simp
  | 1, _ => simp
  | 2, _ => simp
  | 3, _ => simp; omega

end Go.Proofs.YtedbgimmbapfaaaGreat

/- NumsPutRef -/
namespace Go.Proofs.YtedbgimmbapfaaaGreat
open Go.RowKit
set_option linter.unusedVariables false

theorem conv_one {m : Nat} : ∀ wx : World, (convert 54 9 (.slice (some ⟨wx.heap.size, 0, none⟩) 1 1)).run Tryz.prog (wx.alloc (.cells #[.int .u8 ((m : Int) % 256)] 5)) = .ok (.string (bs [UInt8.ofNat m])) (wx.alloc (.cells #[.int .u8 ((m : Int) % 256)] 5)) := fun wx => by
  refine run_convert_bytes_back (P := Tryz.prog) _ 54 9 5 ⟨wx.heap.size, 0, none⟩ 1 [UInt8.ofNat m] Tryz.underlying54 Tryz.underlying5 Tryz.underlying9 (fun j hj => ?_)
  obtain rfl : j = 0 := by simpa using hj
  have e : (⟨wx.heap.size, 0, none⟩ : Addr).add 0 = ⟨wx.heap.size, 0, none⟩ := by simp [Addr.add]
  rw [e, World.cell?_alloc_at _ _ _ _ rfl]
  simp

end Go.Proofs.YtedbgimmbapfaaaGreat

/- RecPutRef -/
namespace Go.Proofs.YtedbgimmbapfaaaGreat
open Go.RowKit
set_option linter.unusedVariables false

end Go.Proofs.YtedbgimmbapfaaaGreat

/- NumsGet -/
namespace Go.Proofs.YtedbgimmbapfaaaGreat
open Go.RowKit
set_option linter.unusedVariables false

theorem pow8 : (256 : Nat) ^ 8 = 18446744073709551616 := by decide
theorem un_take_lt (s : ByteArray) (k : Nat) (h : k ≤ 7) : un (s.data.toList.take k) ≤ 72057594037927935 := by
  have h1 := un_lt (s.data.toList.take k)
  have h2 : (s.data.toList.take k).length ≤ 7 := by rw [List.length_take]; omega
  have h3 : 256 ^ (s.data.toList.take k).length ≤ 256 ^ 7 := Nat.pow_le_pow_right (by decide) h2
  have : (256 : Nat) ^ 7 = 72057594037927936 := by decide
  omega
theorem getS_step (s : ByteArray) (k : Nat) (h : k < s.size) : un (s.data.toList.take (k + 1)) = un (s.data.toList.take k) * 256 + (s[k]).toNat := by
  rw [take_snoc s k h, un_snoc]
theorem getS_end (s : ByteArray) (k : Nat) (h : k = s.size ∨ k = 8) (hk : k ≤ 8) : un (s.data.toList.take k) = getS s := by
  unfold getS
  rcases h with h | h
  · subst h
    rw [List.take_of_length_le (by simp), List.take_of_length_le (by simp; omega)]
  · rw [h]

theorem or_byte (a c : Nat) (ha : a ≤ 72057594037927935) (hc : c < 2 ^ 8) : bits .or .u64 ((a : Int) * 256) (c : Int) = ((a * 256 + c : Nat) : Int) := by
  have e : (a : Int) * 256 = ((a * 256 : Nat) : Int) := by omega
  have h := Nat.shiftLeft_add_eq_or_of_lt hc a
  rw [Nat.shiftLeft_eq] at h
  have h1 : (BitVec.ofInt 64 ((a * 256 : Nat) : Int)).toNat = a * 256 := by
    rw [BitVec.ofInt_natCast, BitVec.toNat_ofNat]; exact Nat.mod_eq_of_lt (by omega)
  have h2 : (BitVec.ofInt 64 (c : Int)).toNat = c := by
    rw [BitVec.ofInt_natCast, BitVec.toNat_ofNat]; exact Nat.mod_eq_of_lt (by omega)
  rw [e]
  show IntKind.u64.wrap ((BitVec.ofInt 64 ((a * 256 : Nat) : Int) ||| BitVec.ofInt 64 (c : Int)).toNat : Int) = _
  rw [BitVec.toNat_or, h1, h2, ← show a * 256 + c = a * 256 ||| c from h, IntKind.wrap_u64]
  omega

set_option maxHeartbeats 400000 in
theorem get_any (s : ByteArray) (w : World) (hs : s.size ≤ maxLen) :
    Calls Tryz.prog 28 #[.string s] w fun e w' => e = .returned (.int .u64 (getS s : Nat)) ∧ w = w' := by
  unfold maxLen at hs
  by_cases h8 : s.size ≤ 8
  all_goals
    go_enter Tryz.func28, Tryz.ntmps28
    go_wp2
    go_loop [3, 8] (fun n i => ∃ k : Nat, k ≤ s.size ∧ k ≤ 8 ∧ i = .int .i64 k ∧ n = .int .u64 (un (s.data.toList.take k) : Nat)) (fun _ i => 8 - (intOf i).toNat)
    case atStart => exact ⟨0, Nat.zero_le _, by omega, rfl, rfl⟩
    case round =>
      obtain ⟨k, hk, hk8, rfl, rfl⟩ := hrel
      by_cases hlt : k < s.size ∧ k < 8
      · obtain ⟨h1, h2⟩ := hlt
        have hb := un_take_lt s k (by omega)
        have hst := Lib.hid (getS_step s k h1)
        have hc := (s[k]).toNat_lt
        go_wp2
        go_round
        case rel => exact ⟨k + 1, by omega, by omega, by go_num, by rw [hst.out, or_byte _ _ (by omega) hc]⟩
        case measure => simp [intOf]; omega
      · have hend := Lib.hid (getS_end s k (by omega) hk8)
        go_wp2
        go_ret
        exact ⟨ret_int (by rw [hend.out]), rfl⟩
end Go.Proofs.YtedbgimmbapfaaaGreat

/- NumsGetRef -/
namespace Go.Proofs.YtedbgimmbapfaaaGreat
open Go.RowKit
set_option linter.unusedVariables false

end Go.Proofs.YtedbgimmbapfaaaGreat

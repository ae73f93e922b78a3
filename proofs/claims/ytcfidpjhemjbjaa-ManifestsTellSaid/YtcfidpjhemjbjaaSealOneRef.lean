/- The document's own Seal (Open apart). -/
import Derived.Test.YtcfidpjhemjbjaaSealOne
import Derived.Test.YtcfidpjhemjbjaaSumsIntoRef
namespace Go.Proofs.Ytcfidpjhemjbjaa
open Go.RowKit
set_option linter.unusedVariables false

theorem tail_list (l : List UInt8) : tailS l = [UInt8.ofNat (sumS l), UInt8.ofNat (sumS l / 256), UInt8.ofNat (sumS l / 65536), UInt8.ofNat (sumS l / 16777216)] := by
  have p1 : (256 : Nat) ^ 1 = 256 := by decide
  have p2 : (256 : Nat) ^ 2 = 65536 := by decide
  have p3 : (256 : Nat) ^ 3 = 16777216 := by decide
  simp only [tailS, be, p1, p2, p3, Nat.pow_zero, Nat.div_one, List.reverse_cons, List.reverse_nil, List.nil_append, List.cons_append]

theorem conv_four {m : Nat} (hm : m < 4294967296) : ∀ wx : World, (convert 39 9 (.slice (some ⟨wx.heap.size, 0, none⟩) 4 4)).run Try.prog (wx.alloc (.cells #[.int .u8 ((m : Int) % 256), .int .u8 ((m : Int) / 256 % 256), .int .u8 ((m : Int) / 65536 % 256), .int .u8 ((m : Int) / 16777216)] 5)) = .ok (.string (bs [UInt8.ofNat m, UInt8.ofNat (m / 256), UInt8.ofNat (m / 65536), UInt8.ofNat (m / 16777216)])) (wx.alloc (.cells #[.int .u8 ((m : Int) % 256), .int .u8 ((m : Int) / 256 % 256), .int .u8 ((m : Int) / 65536 % 256), .int .u8 ((m : Int) / 16777216)] 5)) := fun wx => by
  refine run_convert_bytes_back (P := Try.prog) _ 39 9 5 ⟨wx.heap.size, 0, none⟩ 4 [UInt8.ofNat m, UInt8.ofNat (m / 256), UInt8.ofNat (m / 65536), UInt8.ofNat (m / 16777216)] Try.underlying39 Try.underlying5 Try.underlying9 (fun j hj => ?_)
  have e : (⟨wx.heap.size, 0, none⟩ : Addr).add j = ⟨wx.heap.size, j, none⟩ := by simp [Addr.add]; omega
  rw [e, World.cell?_alloc_at _ _ _ _ rfl]
  have hj' : j < 4 := hj
  match j, hj' with
  | 0, _ => simp
  | 1, _ => simp
  | 2, _ => simp
  | 3, _ => simp; omega

set_option maxHeartbeats 400000 in
theorem seal_ref (s : ByteArray) (w : World) (hs : s.size + 4 ≤ maxLen) :
    Calls Try.prog 25 #[.string s] w fun e w' => e = .returned (.string (sealS s)) ∧ Below w.heap.size w w' := by
  have h1 := Lib.hid (fun w => sum_ref s w (by omega))
  have ha := add_four s hs _ (tailS_length s.data.toList)
  have hl := sumS_lt s.data.toList
  unfold sealS
  rw [tail_list] at ha ⊢
  generalize sumS s.data.toList = n at *
  have hcv := conv_four hl
  generalize [UInt8.ofNat n, UInt8.ofNat (n / 256), UInt8.ofNat (n / 65536), UInt8.ofNat (n / 16777216)] = t at *
  unfold maxLen at hs
  go_enter Try.func25, Try.ntmps25
  go_wp2_with fail
  refine (h1.out _).mono ?_
  rintro e w' ⟨rfl, rfl⟩
  go_wp2
  go_ret
  exact ⟨rfl, (Below.refl _ _).alloc (Nat.le_refl _) _⟩
end Go.Proofs.Ytcfidpjhemjbjaa

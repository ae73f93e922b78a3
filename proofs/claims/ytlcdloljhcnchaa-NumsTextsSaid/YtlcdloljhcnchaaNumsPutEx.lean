/- The chapter's examples of layer 1, as the statements ask them. -/
import Derived.Test.YtlcdloljhcnchaaNumsText
import Derived.OpenShut
namespace Go.Proofs.Ytlcdloljhcnchaa
open Go.RowKit
set_option linter.unusedVariables false

theorem bj {a b c : World} (h : Below a.heap.size a b) (k : Below b.heap.size b c) : Below a.heap.size a c := h.trans (k.mono h.size)

theorem u64_nat {a : Int} (h : (Lit.int .u64 a).wf = true) : ∃ n : Nat, a = n ∧ n < 18446744073709551616 := by
  have := bounds_u64 h
  exact ⟨a.toNat, by omega, by omega⟩

theorem ex_put (n : Nat) (size : Int) (s : ByteArray) (hn : n < 18446744073709551616) (h : putS n size = s) (w : World) :
    Calls Try.prog 8 #[.int .u64 (n : Nat), .int .i64 size] w fun e w' => e = .returned (.string s) ∧ Below w.heap.size w w' := h ▸ put_any n size w hn
theorem ex_get (s : ByteArray) (n : Nat) (hs : s.size ≤ 1000) (h : getS s = n) (w : World) :
    Calls Try.prog 10 #[.string s] w fun e w' => e = .returned (.int .u64 (n : Nat)) ∧ w = w' := h ▸ get_any s w (by unfold maxLen; omega)
theorem ex_text (s t : ByteArray) (hs : s.size ≤ 1000) (h : textS s = t) (w : World) :
    Calls Try.prog 14 #[.string s] w fun e w' => e = .returned (.string t) ∧ Below w.heap.size w w' := h ▸ text_any s w (by unfold maxLen; omega)
theorem ex_read (s a b : ByteArray) (ok : Bool) (hs : s.size ≤ 1000) (h1 : rdA s = a) (h2 : rdB s = b) (h3 : rdOk s = ok) (w : World) :
    Calls Try.prog 12 #[.string s] w fun e w' => e = .returned (.tuple #[.string a, .string b, .bool ok]) ∧ Below w.heap.size w w' := by
  rw [← h1, ← h2, ← h3]
  exact read_any s w (by unfold maxLen; omega)


set_option maxHeartbeats 1000000 in
theorem put_true (w : World) : Calls Try.prog 7 #[] w fun e w' => e = .returned (.bool true) ∧ Below w.heap.size w w' := by
  go_enter Try.func7, Try.ntmps7
  go_wp2_with fail
  refine (ex_read ⟨#[0, 2, 97, 98, 99]⟩ ⟨#[97, 98]⟩ ⟨#[99]⟩ true (by decide) (by kernel_rfl) (by kernel_rfl) (by kernel_rfl) _).mono ?_
  rintro e w1 ⟨rfl, hb1⟩
  go_wp2_with fail
  refine (ex_read ⟨#[0, 3, 97, 98]⟩ ⟨#[]⟩ ⟨#[]⟩ false (by decide) (by kernel_rfl) (by kernel_rfl) (by kernel_rfl) _).mono ?_
  rintro e w2 ⟨rfl, hb2⟩
  go_wp2_with fail
  refine (ex_put 258 2 ⟨#[1, 2]⟩ (by decide) (by kernel_rfl) _).mono ?_
  rintro e w3 ⟨rfl, hb3⟩
  go_wp2_with fail
  refine (ex_put 258 1 ⟨#[2]⟩ (by decide) (by kernel_rfl) _).mono ?_
  rintro e w4 ⟨rfl, hb4⟩
  go_wp2_with fail
  refine (ex_put 1 3 ⟨#[0, 0, 1]⟩ (by decide) (by kernel_rfl) _).mono ?_
  rintro e w5 ⟨rfl, hb5⟩
  go_wp2_with fail
  refine (ex_put 1 9 ⟨#[]⟩ (by decide) (by kernel_rfl) _).mono ?_
  rintro e w6 ⟨rfl, hb6⟩
  go_wp2_with fail
  refine (ex_get ⟨#[1, 2]⟩ 258 (by decide) (by kernel_rfl) _).mono ?_
  rintro e w7 ⟨rfl, rfl⟩
  go_wp2_with fail
  refine (ex_get ⟨#[]⟩ 0 (by decide) (by kernel_rfl) _).mono ?_
  rintro e w8 ⟨rfl, rfl⟩
  go_wp2_with fail
  refine (ex_get ⟨#[255, 255, 255, 255, 255, 255, 255, 255, 255]⟩ 18446744073709551615 (by decide) (by kernel_rfl) _).mono ?_
  rintro e w9 ⟨rfl, rfl⟩
  go_wp2_with fail
  refine (ex_text ⟨#[97, 98]⟩ ⟨#[0, 2, 97, 98]⟩ (by decide) (by kernel_rfl) _).mono ?_
  rintro e w10 ⟨rfl, hb10⟩
  go_wp2
  go_ret
  exact ⟨rfl, bj hb1 (bj hb2 (bj hb3 (bj hb4 (bj hb5 (bj hb6 hb10)))))⟩
end Go.Proofs.Ytlcdloljhcnchaa

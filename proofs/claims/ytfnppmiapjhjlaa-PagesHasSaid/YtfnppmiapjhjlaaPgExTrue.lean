/- The chapter's examples of pages hold. -/
import Derived.Test.YtfnppmiapjhjlaaPgEx
import Derived.Test.YtfnppmiapjhjlaaPgPut
namespace Go.Proofs.Ytfnppmiapjhjlaa
open Go.RowKit
set_option linter.unusedVariables false
set_option maxRecDepth 100000

def exA : ByteArray := bs exL
def exS : ByteArray := putP exA 1
def exT : ByteArray := bs (exS.data.toList.set 191 5)
def exU : ByteArray := bs (exS.data.toList.set 0 99)
theorem ex1 : (exS.data.toList.getD 191 0).toNat = 4 := by decide +kernel
theorem ex2 : (exS.data.toList.getD 0 0).toNat = 98 := by decide +kernel
theorem ex3 : mayT exS 0 = true := by decide +kernel
theorem ex4 : mayT exS 480 = false := by decide +kernel
theorem ex5 : mayT exT 0 = true := by decide +kernel
theorem ex6 : mayT exT 480 = true := by decide +kernel
theorem ex7 : mayT (exS.extract 0 191) 480 = true := by decide +kernel
theorem ex8 : mayT exU 480 = true := by decide +kernel
theorem ex9 : mayT ⟨#[]⟩ 480 = true := by decide +kernel
theorem ex10 : exS.size = 192 := by decide +kernel
theorem ex11 : putP ⟨#[]⟩ 1 = ⟨#[]⟩ := by decide +kernel
theorem ex12 : putP exA 17 = ⟨#[]⟩ := by decide +kernel

theorem ex_may {t : ByteArray} {q : Bool} (g : Nat) (h : mayT t g = q) (hs : t.size ≤ 1000000) (hg : g < 18446744073709551616) : ∀ W, Calls Try.prog 20 #[.string t, .int .u64 (g : Nat)] W fun e w' => e = .returned (.bool q) ∧ Below W.heap.size W w' := fun W => by
  have := lawmay_any t g W hs hg
  rw [h] at this
  exact this
theorem ex_put {a s : ByteArray} {p : Int} (h : putP a p = s) : ∀ W, Calls Try.prog 10 #[.string a, .int .i64 p] W fun e w' => e = .returned (.string s) ∧ Below W.heap.size W w' := fun W => by
  have := pput_any a p W
  rw [h] at this
  exact this
theorem set_size (L : List UInt8) (k : Nat) (c : UInt8) : (bs (L.set k c)).size = L.length := by rw [bs_size, List.length_set]
theorem exS_len : exS.data.toList.length = 192 := by rw [dl_size]; exact ex10
/-- The chapter's examples. -/
theorem paged_true (w : World) : Calls Try.prog 9 #[] w fun e w' => e = .returned (.bool true) ∧ Below w.heap.size w w' :=
  paged_walk exA exS exT exU w 4 5 98 99 rfl ex10 ex1 ex2 (by decide) (by decide) (by decide) (by decide) rfl rfl
    (ex_put rfl) (ex_put ex11) (ex_put ex12)
    (ex_may 0 ex3 (by rw [ex10]; decide) (by decide)) (ex_may 480 ex4 (by rw [ex10]; decide) (by decide))
    (ex_may 0 ex5 (by unfold exT; rw [set_size, exS_len]; decide) (by decide)) (ex_may 480 ex6 (by unfold exT; rw [set_size, exS_len]; decide) (by decide))
    (ex_may 480 ex7 (by rw [ByteArray.size_extract, ex10]; decide) (by decide)) (ex_may 480 ex9 (by decide) (by decide)) (ex_may 480 ex8 (by unfold exU; rw [set_size, exS_len]; decide) (by decide))
end Go.Proofs.Ytfnppmiapjhjlaa

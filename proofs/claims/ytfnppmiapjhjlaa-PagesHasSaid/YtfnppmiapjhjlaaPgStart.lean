/- What the laws on a filter that was made begin with. -/
import Derived.Test.YtfnppmiapjhjlaaPgMayWalk
namespace Go.Proofs.Ytfnppmiapjhjlaa
open Go.RowKit
set_option linter.unusedVariables false

theorem pg_two (w : World) (a b : Int) (t : TypeId) : (w.alloc (.cells #[.int .u8 a, .int .u8 b] t)).cell? ⟨w.heap.size, 0, none⟩ = some (.int .u8 a) ∧ (w.alloc (.cells #[.int .u8 a, .int .u8 b] t)).cell? ⟨w.heap.size, 1, none⟩ = some (.int .u8 b) :=
  ⟨(Blok.new w t _).cell 0, (Blok.new w t _).cell 1⟩
theorem keep_refl (s : ByteArray) : KeepP s s := fun j hj => ⟨(pgW_iff.1 hj).1, rfl⟩
/-- The numbers of a filter that is made: p probes, q pages, n bytes, m bits. -/
structure Nums (x y p q n m : Nat) : Prop where
  hp : 1 + x % 16 = p
  hq : 1 + y % 5 = q
  hn : 60 * q = n
  hm : 8 * n = m
theorem nums_any (x y : Nat) : ∃ p q n m, Nums x y p q n m := ⟨_, _, _, _, ⟨rfl, rfl, rfl, rfl⟩⟩
namespace Nums
variable {x y p q n m : Nat} (h : Nums x y p q n m) (l : List Nat)
include h
theorem p16 : 1 ≤ p ∧ p ≤ 16 := by have := h.hp; omega
theorem q5 : 1 ≤ q ∧ q ≤ 5 := by have := h.hq; omega
theorem ex : 1 + (x : Int) % 16 = (p : Int) := by have := h.hp; omega
theorem ey : 480 * (1 + (y : Int) % 5) = (m : Int) := by have := h.hq; have := h.hn; have := h.hm; omega
theorem wp : (Lit.int .i64 (p : Nat)).wf = true := WalkArith.wf_i64 (by have := h.p16; omega)
theorem wm : (Lit.int .i64 (m : Nat)).wf = true := WalkArith.wf_i64 (by have := h.q5; have := h.hn; have := h.hm; omega)
theorem size : (bs (makeL l p (m : Nat))).size = n := by
  have h1 := h.q5
  have h2 := h.hn
  rw [← h.hm]
  exact make_size l p n (by omega) (by omega)
theorem ok : pgOk n p = true := by
  have h0 := h.p16
  have h1 := h.q5
  have h2 := h.hn
  exact pgOk_iff.2 (by omega)
theorem okS : pgOk (bs (makeL l p (m : Nat))).size p = true := by rw [h.size l]; exact h.ok
theorem put_size : (putP (bs (makeL l p (m : Nat))) p).size = 64 * (q + 1) := by
  rw [putP_size (h.okS l), h.size l]
  have h2 := h.hn
  have : n / 60 = q := by omega
  rw [this]
theorem keep {t : ByteArray} {g : Nat} (hg : g ∈ l) (hK : KeepP (putP (bs (makeL l p (m : Nat))) p) t) : mayT t g = true := by
  rw [← h.hm] at hK
  exact keep_may hg h.ok hK
theorem has (g : Nat) : mayT (putP (bs (makeL l p (m : Nat))) p) g = hasL (bs (makeL l p (m : Nat))).data.toList p g := mayT_put (h.okS l) g
end Nums
end Go.Proofs.Ytfnppmiapjhjlaa

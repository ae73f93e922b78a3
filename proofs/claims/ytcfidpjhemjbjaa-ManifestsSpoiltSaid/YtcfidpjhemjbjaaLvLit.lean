/- Lists and levels that are written out. -/
import Derived.Test.YtcfidpjhemjbjaaLvs
import Derived.Test.YtcfidpjhemjbjaaOwn
namespace Go.Proofs.Ytcfidpjhemjbjaa
open Go.RowKit
set_option linter.unusedVariables false
set_option maxRecDepth 100000

theorem ints_lit (w : World) (ns : List Int) (hm : ns.length ≤ 10000) : IntsIn (w.alloc (.cells (ns.map intV).toArray 3)) (.slice (some ⟨w.heap.size, 0, none⟩) ns.length ns.length) ns :=
  Or.inr ⟨w.heap.size, 0, ns.length, rfl, Nat.le_refl _, by unfold maxLen; omega, by simp, fun i x hx => by
    rw [Nat.zero_add]
    refine (Blok.new w 3 _).cell i |>.trans ?_
    rw [List.getElem?_toArray, List.getElem?_map, hx]
    rfl⟩
theorem lvs_lit (w : World) (M : List LvS) (n : Nat) (hn : M.length = n) (hm : n ≤ 10000) (he : LvEach w M) : LvsHas (w.alloc (.cells (lvals M).toArray 41)) (.slice (some ⟨w.heap.size, 0, none⟩) n n) (lvl M) := by
  subst hn
  exact ⟨M, ⟨Or.inr ⟨w.heap.size, 0, M.length, rfl, Nat.le_refl _, by unfold maxLen; omega, by simp, fun i x hx => by
    rw [Nat.zero_add]
    refine (Blok.new w 41 _).cell i |>.trans ?_
    rw [List.getElem?_toArray]
    unfold lvals
    rw [List.getElem?_map, hx]
    rfl⟩, he.below ((Below.refl _ _).alloc (Nat.le_refl _) _) (Nat.le_refl _)⟩, rfl⟩
end Go.Proofs.Ytcfidpjhemjbjaa

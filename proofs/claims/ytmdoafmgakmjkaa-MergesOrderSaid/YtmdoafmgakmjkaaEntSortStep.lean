/- What the document's Sort of entries stands on: append in a region that draws. -/
import Derived.Test.YtmdoafmgakmjkaaEntRange
import Derived.Test.YtmdoafmgakmjkaaEntRef
import Derived.Deep.RegionLaw
namespace Go.Proofs.Ytmdoafmgakmjkaa
open Go.RowKit Go.Shelf
set_option linter.unusedVariables false
set_option maxRecDepth 100000

theorem step_append_ents {ops : Array Oper} {o : Oper} {a : Act} {w : World} {K : Act → World → Prop} {Q : Exit → Act → World → Prop} {E : Prop} {vs vx : Value} {base : Nat} {l m : List EntS} (hgd : o.guard = none) (s x : Operand)
    (ho : o.op = .call { callee := .builtin .append, args := #[s, x], argTypes := #[25, 25] }) (hs : a.eval s = vs) (hx : a.eval x = vx)
    (hown : EntRow w base vs l) (hsrc : EntsIn w vx m) (hl : l.length + m.length ≤ 1000000) (hb : base ≤ w.heap.size)
    (h : ∀ v' w', EntRow w' base v' (l ++ m) → w.grownBy w' vs.ownBlock → (v'.ownBlock = vs.ownBlock ∨ v'.ownBlock = some w.heap.size) → K (a.put o.dst v') w') :
    if Region.wanted o (yielded ops a.tmps) = true then Oper.wp Try.prog o a w K Q else E := by
  obtain ⟨A, c, w', e1, e2, e3, e4⟩ := ents_append hown hsrc hl hb o.type
  exact step_append_run hgd s x _ ho hs hx e1 (h _ w' e2 e3 e4)

theorem EntRow.shape {w : World} {base : Nat} {v : Value} {l : List EntS} (h : EntRow w base v l) : ∃ A c, v = .slice A l.length c ∧ EntRow w base (.slice A l.length c) l := by
  obtain ⟨A, c, rfl, -, -, -⟩ := own_form h
  exact ⟨A, c, rfl, h⟩
section
variable {wc W V : World} {vs v' : Value} {base : Nat}
theorem bdn (wc : World) (m : Nat) : Below wc.heap.size wc (wc.drewN m) := below_drewN (Below.refl _ _) m
theorem bdna (wc : World) (m : Nat) (o : Obj) : Below wc.heap.size wc ((wc.drewN m).alloc o) := (bdn wc m).alloc (bdn wc m).size o
theorem st_alloc (h : Below wc.heap.size wc W) (o : Obj) : Below wc.heap.size wc (W.alloc o) := h.alloc h.size o
theorem st_grown (h : Below wc.heap.size wc W) (hg : W.grownBy V vs.ownBlock) (hf : ∀ k, vs.ownBlock = some k → wc.heap.size ≤ k) : Below wc.heap.size wc V := h.trans (grown_below hg h.size hf)
theorem far_none : ∀ k, (Value.slice none 0 0).ownBlock = some k → wc.heap.size ≤ k := fun k h => by cases h
theorem far_more (h : Below wc.heap.size wc W) (hf : ∀ k, vs.ownBlock = some k → wc.heap.size ≤ k) (ha : v'.ownBlock = vs.ownBlock ∨ v'.ownBlock = some W.heap.size) : ∀ k, v'.ownBlock = some k → wc.heap.size ≤ k := by
  intro k hk
  rcases ha with e | e
  · exact hf k (e.symm.trans hk)
  · rw [e] at hk
    injection hk with hk
    rw [← hk]
    exact h.size
theorem EntRow.alloc {w : World} {base : Nat} {v : Value} {l : List EntS} (h : EntRow w base v l) (o : Obj) : EntRow (w.alloc o) base v l := EntRow.below h ((Below.refl w.heap.size w).alloc (Nat.le_refl _) o) (Nat.le_refl _)
theorem EntRow.grown {w w' : World} {base : Nat} {v : Value} {l : List EntS} (h : EntRow w base v l) (hg : w.grownBy w' none) : EntRow w' base v l := EntRow.below h (grown_below (v := .slice none 0 0) hg (Nat.le_refl _) (fun k hk => by cases hk)) (Nat.le_refl _)
theorem EntsIn.drew {w : World} {v : Value} {l : List EntS} (h : EntsIn w v l) : EntsIn w.drew v l := h
theorem EntsIn.grown0 {w w' : World} {v : Value} {l : List EntS} (h : EntsIn w v l) (hg : w.grownBy w' (Value.slice none 0 0).ownBlock) : EntsIn w' v l := h.below (grown_below hg (Nat.le_refl _) (fun k hk => by cases hk)) (Nat.le_refl _)
end
end Go.Proofs.Ytmdoafmgakmjkaa

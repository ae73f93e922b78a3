/- Levels that were told, and are written over. -/
import Derived.Test.YtejdeidbgbacgaaLvTold
namespace Go.Proofs.Ytejdeidbgbacgaa
open Go.RowKit Go.Shelf
set_option linter.unusedVariables false
set_option maxRecDepth 100000

/-- Room for so many numbers, in blocks of a call's own. -/
def IRoom (w : World) (base : Nat) (v : Value) (n : Nat) : Prop := ∃ A c, v = .slice A n c ∧ n ≤ maxLen ∧ (0 < n → ∃ g cs, A = some ⟨g, 0, none⟩ ∧ base ≤ g ∧ Blok w g 3 cs ∧ n ≤ cs.size)
theorem IRow.room {w : World} {base : Nat} {v : Value} {l : List Int} (h : IRow w base v l) : IRoom w base v l.length := by
  rcases h.2 with ⟨rfl, h0⟩ | ⟨g, cap, cur, rfl, hg, hh, hn, hm, hsz, ht⟩
  · exact ⟨none, 0, by rw [h0], by omega, fun h => by omega⟩
  · exact ⟨_, cap, rfl, by omega, fun _ => ⟨g, cur, rfl, hg, hh, by omega⟩⟩
theorem IRoom.below {w w' : World} {base n B : Nat} {v : Value} (h : IRoom w base v n) (hb : Below B w w') (hB : w.heap.size ≤ B) : IRoom w' base v n := by
  obtain ⟨A, c, e, h1, h2⟩ := h
  refine ⟨A, c, e, h1, fun h0 => ?_⟩
  obtain ⟨g, cs, e1, e2, e3, e4⟩ := h2 h0
  exact ⟨g, cs, e1, e2, (hb.block g (Nat.lt_of_lt_of_le e3.lt hB)).trans e3, e4⟩
theorem IRoom.set {w : World} {base n : Nat} {v : Value} (h : IRoom w base v n) (g j : Nat) (u : Value) : IRoom (w.setCell ⟨g, j, none⟩ u) base v n := by
  obtain ⟨A, c, e, h1, h2⟩ := h
  refine ⟨A, c, e, h1, fun h0 => ?_⟩
  obtain ⟨g', cs, e1, e2, e3, e4⟩ := h2 h0
  by_cases hg : g' = g
  · subst hg
    exact ⟨g', _, e1, e2, e3.put j u, by rw [Array.size_setIfInBounds]; exact e4⟩
  · exact ⟨g', cs, e1, e2, e3.far hg u, e4⟩
/-- What was told: two times levels, and numbers; they may be written over. -/
def Over (wo : World) (va : Value) (Ma : List LvS) (vc : Value) (nc : Nat) (vx : Value) (Mx : List LvS) (w : World) : Prop :=
  LvRow w wo.heap.size va Ma ∧ (∀ x ∈ Ma, IRoom w wo.heap.size x.v x.l.length) ∧ IRoom w wo.heap.size vc nc ∧ LvRow w wo.heap.size vx Mx ∧ (∀ x ∈ Mx, IRoom w wo.heap.size x.v x.l.length) ∧ Below wo.heap.size wo w
section
variable {wo : World} {va vc vx : Value} {Ma Mx : List LvS} {nc : Nat} {w : World}
theorem Over.set (h : Over wo va Ma vc nc vx Mx w) {g : Nat} {cs : Array Value} (hg : wo.heap.size ≤ g) (hb : Blok w g 3 cs) (j : Nat) (u : Value) : Over wo va Ma vc nc vx Mx (w.setCell ⟨g, j, none⟩ u) := by
  obtain ⟨h1, h2, h3, h4, h5, h6⟩ := h
  exact ⟨own_far h1 (own_ne h1 hb lv_ne) u, fun x hx => (h2 x hx).set g j u, h3.set g j u, own_far h4 (own_ne h4 hb lv_ne) u, fun x hx => (h5 x hx).set g j u, h6.setCell hg u⟩
theorem Over.put (h : Over wo va Ma vc nc vx Mx w) {v : Value} {n k : Nat} (hr : IRoom w wo.heap.size v n) (hk : k < n) (u : Value) :
    ∃ g c u', v = .slice (some ⟨g, 0, none⟩) n c ∧ w.cell? ⟨g, k, none⟩ = some u' ∧ w.frozen? ⟨g, k, none⟩ = false ∧ Over wo va Ma vc nc vx Mx (w.setCell ⟨g, k, none⟩ u) := by
  obtain ⟨A, c, e, h1, h2⟩ := hr
  obtain ⟨g, cs, rfl, e2, e3, e4⟩ := h2 (by omega)
  have hc := e3.cell k
  rw [Array.getElem?_eq_getElem (by omega)] at hc
  exact ⟨g, c, _, e, hc, e3.frozen k, h.set e2 e3 k u⟩
theorem Over.at_a (h : Over wo va Ma vc nc vx Mx w) {i : Nat} {y : LvS} (hy : Ma[i]? = some y) : ∃ g c, va = .slice (some ⟨g, 0, none⟩) Ma.length c ∧ w.cell? ⟨g, i, none⟩ = some y.v := by
  have hi := (List.getElem?_eq_some_iff.1 hy).1
  obtain ⟨A, c, e, -⟩ := own_form h.1
  have h1 := h.1
  rw [e] at h1
  obtain ⟨g, rfl, -, -, -⟩ := LvRow.some_ h1 (by omega)
  exact ⟨g, c, e, (LvRow.cell h1 rfl hy).1⟩
theorem Over.at_x (h : Over wo va Ma vc nc vx Mx w) {i : Nat} {y : LvS} (hy : Mx[i]? = some y) : ∃ g c, vx = .slice (some ⟨g, 0, none⟩) Mx.length c ∧ w.cell? ⟨g, i, none⟩ = some y.v := by
  have hi := (List.getElem?_eq_some_iff.1 hy).1
  obtain ⟨A, c, e, -⟩ := own_form h.2.2.2.1
  have h1 := h.2.2.2.1
  rw [e] at h1
  obtain ⟨g, rfl, -, -, -⟩ := LvRow.some_ h1 (by omega)
  exact ⟨g, c, e, (LvRow.cell h1 rfl hy).1⟩
end
end Go.Proofs.Ytejdeidbgbacgaa

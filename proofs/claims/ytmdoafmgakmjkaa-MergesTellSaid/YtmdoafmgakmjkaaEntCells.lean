/- Entries of a row of a call's own, cell by cell. -/
import Derived.Test.YtmdoafmgakmjkaaEntList
namespace Go.Proofs.Ytmdoafmgakmjkaa
open Go.RowKit Go.Shelf
set_option linter.unusedVariables false
set_option maxRecDepth 100000

/-- An entry of a row of a call's own is another one. -/
theorem entFlat_set : ∀ (l : List EntS) (k : Nat) (x : EntS), k < l.length → entFlat (l.set k x) = (((entFlat l).set (k * 3) (.int .u64 (x.h : Nat))).set (k * 3 + 1) (.int .i64 x.v)).set (k * 3 + 2) (.int .i64 x.p)
  | [], k, x, h => absurd h (Nat.not_lt_zero _)
  | y :: l, 0, x, _ => rfl
  | y :: l, k + 1, x, h => by
    have ih := entFlat_set l k x (by simpa using h)
    have e : (k + 1) * 3 = k * 3 + 3 := by omega
    unfold entFlat at *
    rw [List.set_cons_succ, List.flatMap_cons, List.flatMap_cons, ih, e]
    rfl
theorem EntRow.put {w : World} {base g n cap k : Nat} {l : List EntS} (h : EntRow w base (.slice (some ⟨g, 0, none⟩) n cap) l) (hn : n = l.length) (hk : k < n) (x : EntS) :
    EntRow (((w.setCell ⟨g, k * 3, none⟩ (.int .u64 (x.h : Nat))).setCell ⟨g, k * 3 + 1, none⟩ (.int .i64 x.v)).setCell ⟨g, k * 3 + 2, none⟩ (.int .i64 x.p)) base (.slice (some ⟨g, 0, none⟩) n cap) (l.set k x) := by
  subst hn
  have h1 := (h.stored (k * 3) (.int .u64 (x.h : Nat))).1
  have h2 := (h1.stored (k * 3 + 1) (.int .i64 x.v)).1
  have h3 := (h2.stored (k * 3 + 2) (.int .i64 x.p)).1
  unfold EntRow
  rw [entFlat_set l k x hk, List.length_set]
  exact h3
theorem EntRow.at_ {w : World} {base g n cap k : Nat} {l : List EntS} (h : EntRow w base (.slice (some ⟨g, 0, none⟩) n cap) l) (hn : n = l.length) (hk : k < n) :
    (∃ x : EntS, w.cell? ⟨g, k * 3, none⟩ = some (.int .u64 (x.h : Nat)) ∧ w.cell? ⟨g, k * 3 + 1, none⟩ = some (.int .i64 x.v) ∧ w.cell? ⟨g, k * 3 + 2, none⟩ = some (.int .i64 x.p)) ∧
    w.frozen? ⟨g, k * 3, none⟩ = false ∧ w.frozen? ⟨g, k * 3 + 1, none⟩ = false ∧ w.frozen? ⟨g, k * 3 + 2, none⟩ = false := by
  subst hn
  have hx := List.getElem?_eq_getElem hk
  refine ⟨⟨l[k], ?_, ?_, ?_⟩, h.frozenAt _, h.frozenAt _, h.frozenAt _⟩
  · exact (h.cellAt (k * 3) (by omega)).trans (entFlat_at l k _ hx 0 (by omega))
  · exact (h.cellAt (k * 3 + 1) (by omega)).trans (entFlat_at l k _ hx 1 (by omega))
  · exact (h.cellAt (k * 3 + 2) (by omega)).trans (entFlat_at l k _ hx 2 (by omega))
theorem EntRow.down {w : World} {base base' : Nat} {v : Value} {l : List EntS} (h : EntRow w base v l) (hb : base' ≤ base) : EntRow w base' v l := by
  refine ⟨h.1, ?_⟩
  rcases h.2 with h0 | ⟨g, cap, cur, hv, hg, r⟩
  · exact Or.inl h0
  · exact Or.inr ⟨g, cap, cur, hv, Nat.le_trans hb hg, r⟩
end Go.Proofs.Ytmdoafmgakmjkaa

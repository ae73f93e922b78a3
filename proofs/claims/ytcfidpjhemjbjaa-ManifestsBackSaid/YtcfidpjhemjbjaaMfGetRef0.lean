/- What a call has in memory that reads a manifest: the document's. -/
import Derived.Test.YtcfidpjhemjbjaaMfNumRef
import Derived.Test.YtcfidpjhemjbjaaMfTrim
import Derived.Test.YtcfidpjhemjbjaaMfValid
namespace Go.Proofs.Ytcfidpjhemjbjaa
open Go.RowKit Go.Shelf
set_option linter.unusedVariables false
set_option maxRecDepth 100000

/-- The blocks of the answer and of the manifest. -/
structure RgB (w : World) (x0 x1 : Int) (x2 : Nat) (v : Value) (wr : World) : Prop where
  bel : Below w.heap.size w wr
  b2 : Blok wr w.heap.size 25 #[.int .i64 0, .int .i64 0, .int .u64 0, .slice none 0 0]
  b4 : Blok wr (w.heap.size + 1) 25 #[.int .i64 x0, .int .i64 x1, .int .u64 (x2 : Nat), v]
section
variable {w wr : World} {x2 : Nat} {x0 x1 : Int} {v : Value}
theorem RgB.below (h : RgB w x0 x1 x2 v wr) {B : Nat} {w' : World} (hb : Below B wr w') (hB : w.heap.size + 2 ≤ B) : RgB w x0 x1 x2 v w' :=
  ⟨h.bel.trans (hb.mono (by omega)), (hb.block _ (show w.heap.size < B by omega)).trans h.b2, (hb.block _ (show w.heap.size + 1 < B by omega)).trans h.b4⟩
theorem RgB.set3 (h : RgB w x0 x1 x2 v wr) (u : Value) : RgB w x0 x1 x2 u (wr.setCell ⟨w.heap.size + 1, 3, none⟩ u) :=
  ⟨h.bel.setCell (p := ⟨w.heap.size + 1, 3, none⟩) (show w.heap.size ≤ w.heap.size + 1 by omega) _, h.b2.far (p := ⟨w.heap.size + 1, 3, none⟩) (show w.heap.size ≠ w.heap.size + 1 by omega) _, h.b4.put 3 _⟩
theorem RgB.cells (h : RgB w x0 x1 x2 v wr) : wr.cell? ⟨w.heap.size + 1, 0, none⟩ = some (.int .i64 x0) ∧ wr.cell? ⟨w.heap.size + 1, 1, none⟩ = some (.int .i64 x1) ∧ wr.cell? ⟨w.heap.size + 1, 2, none⟩ = some (.int .u64 (x2 : Nat)) ∧ wr.cell? ⟨w.heap.size + 1, 3, none⟩ = some v ∧ wr.frozen? ⟨w.heap.size + 1, 3, none⟩ = false ∧ w.heap.size + 1 < wr.heap.size :=
  ⟨h.b4.cell 0, h.b4.cell 1, h.b4.cell 2, h.b4.cell 3, h.b4.frozen 3, h.b4.lt⟩
end
theorem RgB.start (w : World) (x0 x1 : Int) (x2 : Nat) : RgB w x0 x1 x2 (.slice none 0 0) ((w.alloc (.cells #[.int .i64 0, .int .i64 0, .int .u64 0, .slice none 0 0] 25)).alloc (manO x0 x1 x2 (.slice none 0 0))) := by
  refine ⟨((Below.refl _ _).alloc (Nat.le_refl _) _).alloc (by simp) _, (Blok.new w _ _).alloc _, ?_⟩
  have h := Blok.new (w.alloc (.cells #[.int .i64 0, .int .i64 0, .int .u64 0, .slice none 0 0] 25)) 25 #[.int .i64 x0, .int .i64 x1, .int .u64 (x2 : Nat), .slice none 0 0]
  rw [World.size_alloc] at h
  exact h
/-- A number more, a list more, behind a row of a call's own. -/
theorem ints_more {w : World} {base n c : Nat} {A : Option Addr} {l : List Int} {x : Int} (hrow : IRow w base (.slice A n c) l) (hn : n = l.length) (hl : n + 1 ≤ 1000000) (hb : base ≤ w.heap.size) (ty : TypeId) :
    ∃ w' u, (Builtin.append_ #[41, 41] ty #[.slice A n c, .slice (some ⟨w.heap.size, 0, none⟩) 1 1]).run Try.prog (w.alloc (.cells #[.int .i64 x] 3)) = .ok u w' ∧
      (∃ A' c', u = .slice A' (n + 1) c' ∧ IRow w' base (.slice A' (n + 1) c') (l ++ [x])) ∧ Below base w w' := by
  subst hn
  have ha := (Below.refl w.heap.size w).alloc (Nat.le_refl _) (.cells #[.int .i64 x] 3)
  have h1 := IRow.below hrow ha (Nat.le_refl _)
  obtain ⟨A', c', w', e1, e2, e3, -⟩ := ints_append h1 (int_one w x) (by simpa using hl) (by simp; omega) ty
  exact ⟨w', _, e1, ⟨A', c', rfl, e2⟩, ((Below.refl base w).alloc hb _).trans (igrown_below e3 (by simp; omega) (fun k hk => (IRow.block h1 k hk).1))⟩
theorem lvls_more {w : World} {base n c : Nat} {A : Option Addr} {M : List LvS} {x : LvS} (hrow : LvRow w base (.slice A n c) M) (hn : n = M.length) (he : LvOwn w base M) (hx : IRow w base x.v x.l) (hl : n + 1 ≤ 1000000) (hb : base ≤ w.heap.size) (ty : TypeId) :
    ∃ w' u, (Builtin.append_ #[23, 23] ty #[.slice A n c, .slice (some ⟨w.heap.size, 0, none⟩) 1 1]).run Try.prog (w.alloc (.cells #[x.v] 41)) = .ok u w' ∧
      (∃ A' c', u = .slice A' (n + 1) c' ∧ LvRow w' base (.slice A' (n + 1) c') (M ++ [x])) ∧ LvOwn w' base (M ++ [x]) ∧ Below base w w' := by
  subst hn
  have ha := (Below.refl w.heap.size w).alloc (Nat.le_refl _) (.cells #[x.v] 41)
  have h1 := LvRow.below hrow ha (Nat.le_refl _)
  have h2 := he.below ha (Nat.le_refl _)
  have h3 := IRow.below hx ha (Nat.le_refl _)
  obtain ⟨A', c', w', e1, e2, e3, -⟩ := lvs_append h1 (lv_one w x) (fun u hu => by
    obtain ⟨y, hy, rfl⟩ := List.mem_map.1 hu
    rw [List.mem_singleton.1 hy]
    obtain ⟨B, o, cp, e, -, -⟩ := (IRow.in_ hx).form
    rw [e]
    rfl) (by simpa using hl) (by simp; omega) ty
  refine ⟨w', _, e1, ⟨A', c', rfl, e2⟩, fun y hy => ?_, ((Below.refl base w).alloc hb _).trans (igrown_below e3 (by simp; omega) (LvRow.block h1))⟩
  rcases List.mem_append.1 hy with hy | hy
  · exact IRow.grown_l (h2 y hy) h1 e3
  · rw [List.mem_singleton.1 hy]
    exact IRow.grown_l h3 h1 e3
/-- What was read, in the document's words. -/
theorem mfd_end {s : ByteArray} {n p : Nat} {L : LvL} (h : MfAt s n p L) (hn : n ≤ numD s 20 1) (he : n = numD s 20 1 ∨ s.size ≤ p) : ReadsM s ⟨(numD s 4 4 : Nat), (numD s 8 4 : Nat), numD s 12 8, L⟩ := by
  intro m hm hseed hs
  have hz := mfB_size m
  rw [hs] at hz
  rw [numD_yes (by omega)] at hn he
  rw [numD_yes (by omega), numD_yes (by omega), numD_yes (by omega)]
  exact mf_end h hn he m hm hseed hs
theorem numD_le (s : ByteArray) (p n : Nat) : numD s p n ≤ num s p n := by unfold numD; split <;> omega
theorem numD_four (s : ByteArray) (p : Nat) : numD s p 4 < 4294967296 := by have := numD_le s p 4; have := num_lt s p 4 4 (by decide) (by decide); omega
theorem numD_one (s : ByteArray) (p : Nat) : numD s p 1 ≤ 255 := by have := numD_le s p 1; have := num_lt s p 1 1 (by decide) (by decide); omega
theorem numD_eight (s : ByteArray) (p : Nat) : numD s p 8 < 18446744073709551616 := by have := numD_le s p 8; have := num_lt s p 8 8 (by decide) (by decide); omega
end Go.Proofs.Ytcfidpjhemjbjaa

/- Two events of two raw ones, side by side: small words on memory. -/
import Derived.Test.YtnefofcofccmfaaEventsRaw
import Derived.Test.YtnefofcofccmfaaRaws
import Derived.Deep.DeepCutAuto
namespace Go.Proofs.Ytnefofcofccmfaa
open Go.RowKit
set_option linter.unusedVariables false

/-- A raw event in memory. -/
def RawAt (w : World) (g : Nat) (t d : ByteArray) (b : Nat) : Prop := w.heap[g]? = some (.cells #[.string t, .string d, .int .u64 (b : Nat)] 44 (0, 0))
theorem RawAt.c0 {w : World} {g : Nat} {t d : ByteArray} {b : Nat} (h : RawAt w g t d b) : w.cell? ⟨g, 0, none⟩ = some (.string t) := by unfold RawAt at h; simp [World.cell?, h]
theorem RawAt.c1 {w : World} {g : Nat} {t d : ByteArray} {b : Nat} (h : RawAt w g t d b) : w.cell? ⟨g, 1, none⟩ = some (.string d) := by unfold RawAt at h; simp [World.cell?, h]
theorem RawAt.c2 {w : World} {g : Nat} {t d : ByteArray} {b : Nat} (h : RawAt w g t d b) : w.cell? ⟨g, 2, none⟩ = some (.int .u64 (b : Nat)) := by unfold RawAt at h; simp [World.cell?, h]
theorem RawAt.fz {w : World} {g : Nat} {t d : ByteArray} {b : Nat} (h : RawAt w g t d b) (i : Nat) : w.frozen? ⟨g, i, none⟩ = false := by unfold RawAt at h; simp [World.frozen?, h]
theorem RawAt.new (w : World) (t d : ByteArray) (b : Nat) : RawAt (w.alloc (.cells #[.string t, .string d, .int .u64 (b : Nat)] 44)) w.heap.size t d b := by
  show (w.heap.push _)[w.heap.size]? = _
  simp
theorem RawAt.lt {w : World} {g : Nat} {t d : ByteArray} {b : Nat} (h : RawAt w g t d b) : g < w.heap.size := by
  obtain ⟨hlt, _⟩ := Array.getElem?_eq_some_iff.1 h
  exact hlt
theorem RawAt.below {w w' : World} {g : Nat} {t d : ByteArray} {b : Nat} (h : RawAt w g t d b) (hb : Below w.heap.size w w') : RawAt w' g t d b := (hb.block g h.lt).trans h
theorem RawAt.alloc {w : World} {g : Nat} {t d : ByteArray} {b : Nat} (h : RawAt w g t d b) (o : Obj) : RawAt (w.alloc o) g t d b := (Below.heap_alloc w o g h.lt).trans h

/-- All old cells and marks read as before. -/
theorem bcell {W w1 : World} (hb : Below W.heap.size W w1) : (∀ b o, b < W.heap.size → w1.cell? ⟨b, o, none⟩ = W.cell? ⟨b, o, none⟩) ∧ (∀ b o, b < W.heap.size → w1.frozen? ⟨b, o, none⟩ = W.frozen? ⟨b, o, none⟩) :=
  ⟨fun b o h => hb.cell (p := ⟨b, o, none⟩) h, fun b o h => hb.frozen (p := ⟨b, o, none⟩) h⟩
theorem hold_alloc {P : Prop} {W0 W : World} (h : Below W0.heap.size W0 W ∧ P) (o : Obj) : Below W0.heap.size W0 (W.alloc o) := h.1.alloc h.1.size o
theorem hold_call {P : Prop} {W0 W W' : World} (hb : Below W.heap.size W W') (h : Below W0.heap.size W0 W ∧ P) : Below W0.heap.size W0 W' := bj h.1 hb
theorem hold_set {P : Prop} {W0 W : World} {p : Addr} (u : Value) (h : Below W0.heap.size W0 W ∧ P) (hp : W0.heap.size ≤ p.block) : Below W0.heap.size W0 (W.setCell p u) := h.1.setCell hp u
theorem alloc_two {W0 W : World} (h : Below W0.heap.size W0 W) (o o' : Obj) : Below W0.heap.size W0 ((W.alloc o).alloc o') := (h.alloc h.size _).alloc (by have := h.size; simp; omega) _
/-- A block of three cells, known whole. -/
def Blk3 (w : World) (g : Nat) (T : TypeId) (x y z : Value) : Prop := w.heap[g]? = some (.cells #[x, y, z] T (0, 0))
theorem Blk3.new (w : World) (T : TypeId) (x y z : Value) : Blk3 (w.alloc (.cells #[x, y, z] T (0, 0))) w.heap.size T x y z := by
  show (w.heap.push _)[w.heap.size]? = _
  simp
theorem Blk3.lt {w : World} {g : Nat} {T : TypeId} {x y z : Value} (h : Blk3 w g T x y z) : g < w.heap.size := by
  obtain ⟨hlt, _⟩ := Array.getElem?_eq_some_iff.1 h
  exact hlt
theorem Blk3.below {w w' : World} {g : Nat} {T : TypeId} {x y z : Value} (h : Blk3 w g T x y z) (hb : Below w.heap.size w w') : Blk3 w' g T x y z := (hb.block g h.lt).trans h
theorem Blk3.alloc {w : World} {g : Nat} {T : TypeId} {x y z : Value} (h : Blk3 w g T x y z) (o : Obj) : Blk3 (w.alloc o) g T x y z := (Below.heap_alloc w o g h.lt).trans h
theorem Blk3.drew {w : World} {g : Nat} {T : TypeId} {x y z : Value} (h : Blk3 w g T x y z) : Blk3 w.drew g T x y z := h
theorem Blk3.facts {w : World} {g : Nat} {T : TypeId} {x y z : Value} (h : Blk3 w g T x y z) : w.cell? ⟨g, 0, none⟩ = some x ∧ w.cell? ⟨g, 1, none⟩ = some y ∧ w.cell? ⟨g, 2, none⟩ = some z ∧ w.frozen? ⟨g, 0, none⟩ = false ∧ w.frozen? ⟨g, 1, none⟩ = false ∧ w.frozen? ⟨g, 2, none⟩ = false ∧ g < w.heap.size := by
  refine ⟨?_, ?_, ?_, ?_, ?_, ?_, h.lt⟩ <;> unfold Blk3 at h <;> simp [World.cell?, World.frozen?, h]
/-- An event whose cells are known. -/
def EvC (w : World) (g : Nat) (t d : ByteArray) (b : Nat) : Prop :=
  w.cell? ⟨g, 0, none⟩ = some (.string t) ∧ w.cell? ⟨g, 1, none⟩ = some (.string d) ∧ w.cell? ⟨g, 2, none⟩ = some (.float .f64 b) ∧ g < w.heap.size
theorem EvC.below {w w' : World} {g : Nat} {t d : ByteArray} {b : Nat} (h : EvC w g t d b) (hb : Below w.heap.size w w') : EvC w' g t d b := by
  obtain ⟨h0, h1, h2, h6⟩ := h
  exact ⟨(hb.cell h6).trans h0, (hb.cell h6).trans h1, (hb.cell h6).trans h2, Nat.lt_of_lt_of_le h6 hb.size⟩
theorem own_alloc {W0 W : World} {o : Obj} (h : Below W0.heap.size W0 W) : Below W0.heap.size W0 (W.alloc o) := h.alloc h.size o
theorem own_set {W0 W : World} {b i : Nat} {u : Value} (h : Below W0.heap.size W0 W) (hp : W0.heap.size ≤ b) : Below W0.heap.size W0 (W.setCell ⟨b, i, none⟩ u) := h.setCell hp u
theorem held_on {P : Prop} {w w2 W : World} (hb : Below w.heap.size w w2) (h : Below w2.heap.size w2 W ∧ P) : Below w.heap.size w W := bj hb h.1
end Go.Proofs.Ytnefofcofccmfaa

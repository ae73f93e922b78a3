/- A manifest that was got, to which empty levels are put: what the statement of what is put and got has in memory. -/
import Derived.Test.YtcfidpjhemjbjaaMfIn
import Derived.Test.YtcfidpjhemjbjaaMfEx
import Derived.Test.YtcfidpjhemjbjaaMfGetRef0
namespace Go.Proofs.Ytcfidpjhemjbjaa
open Go.RowKit Go.Shelf
set_option linter.unusedVariables false
set_option maxRecDepth 100000

/-- A manifest of a call's own in a block, beside the box of one that came in. -/
structure MbAt (W : World) (cs : Array Value) (g : Nat) (x0 x1 : Int) (x2 : Nat) (base : Nat) (A : Option Addr) (n c : Nat) (M : List LvS) (wr : World) : Prop where
  bel : Below W.heap.size W wr
  box : Blok wr W.heap.size 25 cs
  b : Blok wr g 25 #[.int .i64 x0, .int .i64 x1, .int .u64 (x2 : Nat), .slice A n c]
  row : LvRow wr base (.slice A n c) M
  own : LvOwn wr base M
  gb : W.heap.size < base
  gg : W.heap.size < g
  bw : base ≤ wr.heap.size
theorem lvt_ne : (41 : TypeId) ≠ 25 := by decide
theorem lit_ne : (3 : TypeId) ≠ 25 := by decide
section
variable {W wr : World} {cs : Array Value} {g x2 base n c : Nat} {x0 x1 : Int} {A : Option Addr} {M : List LvS}
theorem MbAt.below (h : MbAt W cs g x0 x1 x2 base A n c M wr) {w' : World} (hb : Below wr.heap.size wr w') : MbAt W cs g x0 x1 x2 base A n c M w' :=
  ⟨bj h.bel hb, mblok_below h.box hb, mblok_below h.b hb, LvRow.below h.row hb (Nat.le_refl _), h.own.below hb (Nat.le_refl _), h.gb, h.gg, Nat.le_trans h.bw hb.size⟩
theorem MbAt.cells (h : MbAt W cs g x0 x1 x2 base A n c M wr) : wr.cell? ⟨g, 0, none⟩ = some (.int .i64 x0) ∧ wr.cell? ⟨g, 1, none⟩ = some (.int .i64 x1) ∧ wr.cell? ⟨g, 2, none⟩ = some (.int .u64 (x2 : Nat)) ∧ wr.cell? ⟨g, 3, none⟩ = some (.slice A n c) ∧ wr.frozen? ⟨g, 3, none⟩ = false :=
  ⟨h.b.cell 0, h.b.cell 1, h.b.cell 2, h.b.cell 3, h.b.frozen 3⟩
theorem MbAt.has (h : MbAt W cs g x0 x1 x2 base A n c M wr) : LvsHas wr (.slice A n c) (lvl M) := ⟨M, LvRow.in_ h.row h.own.each, rfl⟩
/-- An empty level is put behind. -/
theorem MbAt.more (h : MbAt W cs g x0 x1 x2 base A n c M wr) (hn : n = M.length) (hl : n + 1 ≤ 1000000) :
    ∃ w' A' c', (Builtin.append_ #[23, 23] 23 #[.slice A n c, .slice (some ⟨wr.heap.size, 0, none⟩) 1 1]).run Try.prog (wr.alloc (.cells #[.slice none 0 0] 41)) = .ok (.slice A' (n + 1) c') w' ∧
      w'.cell? ⟨g, 3, none⟩ = some (.slice A n c) ∧ w'.frozen? ⟨g, 3, none⟩ = false ∧ MbAt W cs g x0 x1 x2 base A' (n + 1) c' (M ++ [lvNil]) (w'.setCell ⟨g, 3, none⟩ (.slice A' (n + 1) c')) := by
  subst hn
  have h1 := LvRow.alloc h.row (.cells #[.slice none 0 0] 41)
  have h2 : LvOwn (wr.alloc (.cells #[.slice none 0 0] 41)) base M := h.own.below ((Below.refl wr.heap.size wr).alloc (Nat.le_refl _) _) (Nat.le_refl _)
  have b1 := h.b.alloc (.cells #[.slice none 0 0] 41)
  have x1' := h.box.alloc (.cells #[.slice none 0 0] 41)
  obtain ⟨A', c', w', e1, e2, e3, -⟩ := lvs_append h1 (lv_one wr lvNil) (fun u hu => by
    obtain ⟨y, hy, rfl⟩ := List.mem_map.1 hu
    rw [List.mem_singleton.1 hy]
    rfl) (by simpa using hl) (by simp; have := h.bw; omega) 23
  have b2 : Blok w' g 25 #[.int .i64 x0, .int .i64 x1, .int .u64 (x2 : Nat), .slice A M.length c] := (e3.block g b1.lt (fun e => own_ne h1 b1 lvt_ne e.symm)).trans b1
  have y2 : Blok w' W.heap.size 25 cs := (e3.block _ x1'.lt (fun e => own_ne h1 x1' lvt_ne e.symm)).trans x1'
  have o2 : LvOwn w' base (M ++ [lvNil]) := fun y hy => by
    rcases List.mem_append.1 hy with hy | hy
    · exact IRow.grown_l (h2 y hy) h1 e3
    · rw [List.mem_singleton.1 hy]
      exact IRow.nil _ _
  have r2 : LvRow w' base (.slice A' (M.length + 1) c') (M ++ [lvNil]) := e2
  have bel : Below W.heap.size W w' := (h.bel.alloc h.bel.size _).trans (igrown_below e3 (by rw [World.size_alloc]; have := h.bel.size; omega) (fun k hk => by have := LvRow.block h1 k hk; have := h.gb; omega))
  refine ⟨w', A', c', e1, b2.cell 3, b2.frozen 3, bel.setCell (p := ⟨g, 3, none⟩) (Nat.le_of_lt h.gg) _, y2.far (p := ⟨g, 3, none⟩) (by have := h.gg; show W.heap.size ≠ g; omega) _, b2.put 3 _, own_far r2 (own_ne r2 b2 lvt_ne) _, fun y hy => own_far (o2 y hy) (own_ne (o2 y hy) b2 lit_ne) _, h.gb, h.gg, ?_⟩
  rw [World.size_setCell]
  have hz := e3.size
  rw [World.size_alloc] at hz
  have := h.bw
  omega
end
end Go.Proofs.Ytcfidpjhemjbjaa

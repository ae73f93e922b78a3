/- What a call has in memory that reads a manifest: three blocks, the levels, their lists. -/
import Derived.Test.YtcfidpjhemjbjaaMfTake
import Derived.Test.YtcfidpjhemjbjaaMfTrim
import Derived.Test.YtcfidpjhemjbjaaMfValid
import Derived.Test.YtcfidpjhemjbjaaLvWide
namespace Go.Proofs.Ytcfidpjhemjbjaa
open Go.RowKit Go.Shelf
set_option linter.unusedVariables false
set_option maxRecDepth 100000

/-- The blocks of the answer, of the bytes' front, and of the manifest. -/
structure RdB (w : World) (s : ByteArray) (p : Nat) (x0 x1 : Int) (x2 : Nat) (v : Value) (wr : World) : Prop where
  bel : Below w.heap.size w wr
  b2 : Blok wr w.heap.size 25 #[.int .i64 0, .int .i64 0, .int .u64 0, .slice none 0 0]
  b3 : Blok wr (w.heap.size + 1) 64 #[.string (restAt s p)]
  b4 : Blok wr (w.heap.size + 2) 25 #[.int .i64 x0, .int .i64 x1, .int .u64 (x2 : Nat), v]
section
variable {w wr : World} {s : ByteArray} {p x2 : Nat} {x0 x1 : Int} {v : Value}
theorem RdB.drew (h : RdB w s p x0 x1 x2 v wr) : RdB w s p x0 x1 x2 v wr.drew := ⟨h.bel.drew, h.b2, h.b3, h.b4⟩
theorem RdB.alloc (h : RdB w s p x0 x1 x2 v wr) (o : Obj) : RdB w s p x0 x1 x2 v (wr.alloc o) := ⟨h.bel.alloc h.bel.size o, h.b2.alloc o, h.b3.alloc o, h.b4.alloc o⟩
theorem RdB.set (h : RdB w s p x0 x1 x2 v wr) {g i : Nat} (hg : w.heap.size + 3 ≤ g) (u : Value) : RdB w s p x0 x1 x2 v (wr.setCell ⟨g, i, none⟩ u) :=
  ⟨h.bel.setCell (p := ⟨g, i, none⟩) (show w.heap.size ≤ g by omega) u, h.b2.far (p := ⟨g, i, none⟩) (show w.heap.size ≠ g by omega) u, h.b3.far (p := ⟨g, i, none⟩) (show w.heap.size + 1 ≠ g by omega) u, h.b4.far (p := ⟨g, i, none⟩) (show w.heap.size + 2 ≠ g by omega) u⟩
theorem RdB.rest (h : RdB w s p x0 x1 x2 v wr) (q : Nat) : RdB w s q x0 x1 x2 v (wr.setCell ⟨w.heap.size + 1, 0, none⟩ (.string (restAt s q))) :=
  ⟨h.bel.setCell (p := ⟨w.heap.size + 1, 0, none⟩) (show w.heap.size ≤ w.heap.size + 1 by omega) _, h.b2.far (p := ⟨w.heap.size + 1, 0, none⟩) (show w.heap.size ≠ w.heap.size + 1 by omega) _, h.b3.put 0 _, h.b4.far (p := ⟨w.heap.size + 1, 0, none⟩) (show w.heap.size + 2 ≠ w.heap.size + 1 by omega) _⟩
theorem RdB.set0 (h : RdB w s p x0 x1 x2 v wr) (y : Int) : RdB w s p y x1 x2 v (wr.setCell ⟨w.heap.size + 2, 0, none⟩ (.int .i64 y)) :=
  ⟨h.bel.setCell (p := ⟨w.heap.size + 2, 0, none⟩) (show w.heap.size ≤ w.heap.size + 2 by omega) _, h.b2.far (p := ⟨w.heap.size + 2, 0, none⟩) (show w.heap.size ≠ w.heap.size + 2 by omega) _, h.b3.far (p := ⟨w.heap.size + 2, 0, none⟩) (show w.heap.size + 1 ≠ w.heap.size + 2 by omega) _, h.b4.put 0 _⟩
theorem RdB.set1 (h : RdB w s p x0 x1 x2 v wr) (y : Int) : RdB w s p x0 y x2 v (wr.setCell ⟨w.heap.size + 2, 1, none⟩ (.int .i64 y)) :=
  ⟨h.bel.setCell (p := ⟨w.heap.size + 2, 1, none⟩) (show w.heap.size ≤ w.heap.size + 2 by omega) _, h.b2.far (p := ⟨w.heap.size + 2, 1, none⟩) (show w.heap.size ≠ w.heap.size + 2 by omega) _, h.b3.far (p := ⟨w.heap.size + 2, 1, none⟩) (show w.heap.size + 1 ≠ w.heap.size + 2 by omega) _, h.b4.put 1 _⟩
theorem RdB.set2 (h : RdB w s p x0 x1 x2 v wr) (y : Nat) : RdB w s p x0 x1 y v (wr.setCell ⟨w.heap.size + 2, 2, none⟩ (.int .u64 (y : Nat))) :=
  ⟨h.bel.setCell (p := ⟨w.heap.size + 2, 2, none⟩) (show w.heap.size ≤ w.heap.size + 2 by omega) _, h.b2.far (p := ⟨w.heap.size + 2, 2, none⟩) (show w.heap.size ≠ w.heap.size + 2 by omega) _, h.b3.far (p := ⟨w.heap.size + 2, 2, none⟩) (show w.heap.size + 1 ≠ w.heap.size + 2 by omega) _, h.b4.put 2 _⟩
theorem RdB.set3 (h : RdB w s p x0 x1 x2 v wr) (u : Value) : RdB w s p x0 x1 x2 u (wr.setCell ⟨w.heap.size + 2, 3, none⟩ u) :=
  ⟨h.bel.setCell (p := ⟨w.heap.size + 2, 3, none⟩) (show w.heap.size ≤ w.heap.size + 2 by omega) _, h.b2.far (p := ⟨w.heap.size + 2, 3, none⟩) (show w.heap.size ≠ w.heap.size + 2 by omega) _, h.b3.far (p := ⟨w.heap.size + 2, 3, none⟩) (show w.heap.size + 1 ≠ w.heap.size + 2 by omega) _, h.b4.put 3 _⟩
/-- A number is taken. -/
theorem RdB.take (h : RdB w s p x0 x1 x2 v wr) (hs : s.size ≤ 100000) (k : Nat) (h1 : 1 ≤ k) (h8 : k ≤ 8) :
    Calls Try.prog 38 #[.pointer (some ⟨w.heap.size + 1, 0, none⟩), .int .i64 (k : Nat)] wr fun e w' => e = .returned (.int .u64 (num s p k : Nat)) ∧ RdB w s (p + k) x0 x1 x2 v w' ∧ w' = wr.setCell ⟨w.heap.size + 1, 0, none⟩ (.string (restAt s (p + k))) :=
  (take_any s p k (w.heap.size + 1) wr h1 h8 hs (h.b3.cell 0) (h.b3.frozen 0)).mono fun e w' hr => ⟨hr.1, by rw [hr.2]; exact h.rest (p + k), hr.2⟩
theorem RdB.take4 (h : RdB w s p x0 x1 x2 v wr) (hs : s.size ≤ 100000) : Calls Try.prog 38 #[.pointer (some ⟨w.heap.size + 1, 0, none⟩), .int .i64 4] wr fun e w' => e = .returned (.int .u64 (num s p 4 : Nat)) ∧ RdB w s (p + 4) x0 x1 x2 v w' ∧ w' = wr.setCell ⟨w.heap.size + 1, 0, none⟩ (.string (restAt s (p + 4))) := h.take hs 4 (by decide) (by decide)
theorem RdB.take8 (h : RdB w s p x0 x1 x2 v wr) (hs : s.size ≤ 100000) : Calls Try.prog 38 #[.pointer (some ⟨w.heap.size + 1, 0, none⟩), .int .i64 8] wr fun e w' => e = .returned (.int .u64 (num s p 8 : Nat)) ∧ RdB w s (p + 8) x0 x1 x2 v w' ∧ w' = wr.setCell ⟨w.heap.size + 1, 0, none⟩ (.string (restAt s (p + 8))) := h.take hs 8 (by decide) (by decide)
theorem RdB.take1 (h : RdB w s p x0 x1 x2 v wr) (hs : s.size ≤ 100000) : Calls Try.prog 38 #[.pointer (some ⟨w.heap.size + 1, 0, none⟩), .int .i64 1] wr fun e w' => e = .returned (.int .u64 (num s p 1 : Nat)) ∧ RdB w s (p + 1) x0 x1 x2 v w' ∧ w' = wr.setCell ⟨w.heap.size + 1, 0, none⟩ (.string (restAt s (p + 1))) := h.take hs 1 (by decide) (by decide)
theorem RdB.cells (h : RdB w s p x0 x1 x2 v wr) : wr.cell? ⟨w.heap.size + 2, 0, none⟩ = some (.int .i64 x0) ∧ wr.cell? ⟨w.heap.size + 2, 1, none⟩ = some (.int .i64 x1) ∧ wr.cell? ⟨w.heap.size + 2, 2, none⟩ = some (.int .u64 (x2 : Nat)) ∧ wr.cell? ⟨w.heap.size + 2, 3, none⟩ = some v ∧ (∀ i, wr.frozen? ⟨w.heap.size + 2, i, none⟩ = false) ∧ w.heap.size + 2 < wr.heap.size :=
  ⟨h.b4.cell 0, h.b4.cell 1, h.b4.cell 2, h.b4.cell 3, fun i => h.b4.frozen i, h.b4.lt⟩
end
/-- The first number is taken, ahead of the manifest's block. -/
theorem rd_first (s : ByteArray) (w : World) (hs : s.size ≤ 100000) : Calls Try.prog 38 #[.pointer (some ⟨w.heap.size + 1, 0, none⟩), .int .i64 4] ((w.alloc (.cells #[.int .i64 0, .int .i64 0, .int .u64 0, .slice none 0 0] 25)).alloc (.cells #[.string s] 64))
    fun e w' => e = .returned (.int .u64 (num s 0 4 : Nat)) ∧ w'.heap.size = w.heap.size + 2 ∧ RdB w s 4 0 0 0 (.slice none 0 0) (w'.alloc (.cells #[.int .i64 0, .int .i64 0, .int .u64 0, .slice none 0 0] 25)) := by
  have B2 := Blok.new w 25 #[.int .i64 0, .int .i64 0, .int .u64 0, .slice none 0 0]
  have B2' := B2.alloc (.cells #[.string s] 64)
  have hb : Below w.heap.size w ((w.alloc (.cells #[.int .i64 0, .int .i64 0, .int .u64 0, .slice none 0 0] 25)).alloc (.cells #[.string s] 64)) := ((Below.refl _ _).alloc (Nat.le_refl _) _).alloc (by simp) _
  have B3 := Blok.new (w.alloc (.cells #[.int .i64 0, .int .i64 0, .int .u64 0, .slice none 0 0] 25)) 64 #[.string s]
  generalize hW : (w.alloc (.cells #[.int .i64 0, .int .i64 0, .int .u64 0, .slice none 0 0] 25)).alloc (.cells #[.string s] 64) = W at *
  have hz : W.heap.size = w.heap.size + 2 := by rw [← hW]; simp
  rw [World.size_alloc] at B3
  refine (take_any s 0 4 (w.heap.size + 1) W (by decide) (by decide) hs ((B3.cell 0).trans (by rw [restAt_zero]; rfl)) (B3.frozen 0)).mono fun e w' hr => ?_
  obtain ⟨h1, h2⟩ := hr
  subst h2
  have hz' : (W.setCell ⟨w.heap.size + 1, 0, none⟩ (.string (restAt s (0 + 4)))).heap.size = w.heap.size + 2 := by rw [World.size_setCell]; exact hz
  have N := Blok.new (W.setCell ⟨w.heap.size + 1, 0, none⟩ (.string (restAt s (0 + 4)))) 25 #[.int .i64 0, .int .i64 0, .int .u64 0, .slice none 0 0]
  rw [hz'] at N
  exact ⟨h1, hz', (hb.setCell (p := ⟨w.heap.size + 1, 0, none⟩) (show w.heap.size ≤ w.heap.size + 1 by omega) _).alloc (by rw [hz']; omega) _, (B2'.far (p := ⟨w.heap.size + 1, 0, none⟩) (show w.heap.size ≠ w.heap.size + 1 by omega) _).alloc _, (B3.put 0 _).alloc _, N⟩
theorem int_zeros (n : Nat) : (madeCells #[Value.int .i64 0] (n * 1)).toList = (List.replicate n (0 : Int)).map intV := by
  rw [List.map_replicate]
  apply List.ext_getElem?
  intro i
  rw [Array.getElem?_toList, List.getElem?_replicate]
  by_cases h : i < n
  · rw [if_pos h]
    unfold madeCells
    simp [h, Nat.mod_one, intV]
  · rw [if_neg h, Array.getElem?_eq_none (by rw [size_madeCells]; omega)]
/-- A list of zeros is made, and levels that are none. -/
theorem ints_make (n : Nat) (hn : n ≤ 1000000) : ∃ Z : Array Value, (∀ w : World, (Instr.makeSlice 41 (.int .u64 (n : Nat)) (.int .u64 (n : Nat))).run Try.prog w = .ok (.slice (some ⟨w.heap.size, 0, none⟩) n n) (w.alloc (.cells Z 3))) ∧
    ∀ w : World, IRow (w.alloc (.cells Z 3)) w.heap.size (.slice (some ⟨w.heap.size, 0, none⟩) n n) (List.replicate n 0) := by
  obtain ⟨i0, hi, hz0, hz1, hz2⟩ := info_parts info_int
  refine ⟨madeCells #[Value.int .i64 0] (n * 1), fun w => ?_, fun w => ?_⟩
  · have h := run_makeSlice (P := Try.prog) w 41 3 i0 _ Try.underlying41 hi hz0 .u64 .u64 (n : Int) (n : Int) (by omega) (Int.le_refl _) (by rw [hz1]; omega) (by rw [hz2]; omega) (by omega)
    rw [hz1, Int.toNat_natCast] at h
    exact h
  · have h := World.ownsRow_lit (base := w.heap.size) (e := 3) (size := 1) w (madeCells #[Value.int .i64 0] (n * 1)) n (Nat.le_refl _) (by unfold maxLen; omega) (size_madeCells _ _)
    unfold IRow
    rw [List.length_replicate, ← int_zeros]
    exact h
theorem lvs_make (n : Nat) (hn : n ≤ 1000000) : ∃ Z : Array Value, (∀ w : World, (Instr.makeSlice 23 (.int .u64 (n : Nat)) (.int .u64 (n : Nat))).run Try.prog w = .ok (.slice (some ⟨w.heap.size, 0, none⟩) n n) (w.alloc (.cells Z 41))) ∧
    ∀ w : World, LvRow (w.alloc (.cells Z 41)) w.heap.size (.slice (some ⟨w.heap.size, 0, none⟩) n n) (List.replicate n lvNil) := by
  obtain ⟨i0, hi, hz0, hz1, hz2⟩ := info_parts info_lv
  refine ⟨madeCells #[Value.slice none 0 0] (n * 1), fun w => ?_, fun w => ?_⟩
  · have h := run_makeSlice (P := Try.prog) w 23 41 i0 _ Try.underlying23 hi hz0 .u64 .u64 (n : Int) (n : Int) (by omega) (Int.le_refl _) (by rw [hz1]; omega) (by rw [hz2]; omega) (by omega)
    rw [hz1, Int.toNat_natCast] at h
    exact h
  · have h := World.ownsRow_lit (base := w.heap.size) (e := 41) (size := 1) w (madeCells #[Value.slice none 0 0] (n * 1)) n (Nat.le_refl _) (by unfold maxLen; omega) (size_madeCells _ _)
    unfold LvRow
    rw [List.length_replicate, ← lv_zeros]
    exact h
theorem cell_other {W : World} {p q : Addr} {u : Value} (h : q.block ≠ p.block) : (W.setCell p u).cell? q = W.cell? q := by
  unfold World.cell?
  rw [heap_setCell_other W p q.block u h]
theorem cell_alloc {W : World} {q : Addr} {o : Obj} (h : q.block < W.heap.size) : (W.alloc o).cell? q = W.cell? q := ((Below.refl W.heap.size W).alloc (Nat.le_refl _) o).cell h
/-- The levels that are filled, in a block; no two lists in one block. -/
structure RdR (base g n : Nat) (M : List LvS) (wr : World) : Prop where
  row : LvRow wr base (.slice (some ⟨g, 0, none⟩) n n) M
  own : LvOwn wr base M
  apart : LvApart M
  len : M.length = n
  gb : base ≤ g
section
variable {base g n : Nat} {M : List LvS} {wr : World}
theorem RdR.drew (h : RdR base g n M wr) : RdR base g n M wr.drew := ⟨h.row, h.own, h.apart, h.len, h.gb⟩
theorem RdR.alloc (h : RdR base g n M wr) (o : Obj) : RdR base g n M (wr.alloc o) := ⟨LvRow.alloc h.row o, fun x hx => IRow.below (h.own x hx) ((Below.refl wr.heap.size wr).alloc (Nat.le_refl _) o) (Nat.le_refl _), h.apart, h.len, h.gb⟩
theorem RdR.ne (h : RdR base g n M wr) {i c gi : Nat} {l : List Int} (hx : M[i]? = some ⟨.slice (some ⟨gi, 0, none⟩) c c, l⟩) : g ≠ gi := fun e => own_own_ne h.row (h.own _ (List.mem_of_getElem? hx)) lv_ne gi rfl (by rw [e]; rfl)
theorem RdR.start {w : World} {Z : Array Value} (n : Nat) (h : LvRow (w.alloc (.cells Z 41)) w.heap.size (.slice (some ⟨w.heap.size, 0, none⟩) n n) (List.replicate n lvNil)) : RdR w.heap.size w.heap.size n (List.replicate n lvNil) (w.alloc (.cells Z 41)) :=
  ⟨h, fun x hx => by rw [List.eq_of_mem_replicate hx]; exact IRow.nil _ _, fun i j x y hx hy hij g hg => by
    rw [List.eq_of_mem_replicate (List.mem_of_getElem? hx)] at hg
    exact (by cases hg), List.length_replicate, Nat.le_refl _⟩
/-- Another block is written. -/
theorem RdR.far (h : RdR base g n M wr) {b i : Nat} (hb : b < base) (u : Value) : RdR base g n M (wr.setCell ⟨b, i, none⟩ u) :=
  ⟨own_far h.row (fun e => by have := LvRow.block h.row b e; omega) u, fun x hx => own_far (h.own x hx) (fun e => by have := (IRow.block (h.own x hx) b e).1; omega) u, h.apart, h.len, h.gb⟩
theorem RdR.at_ (h : RdR base g n M wr) {i : Nat} {x : LvS} (hx : M[i]? = some x) : wr.cell? ⟨g, i, none⟩ = some x.v ∧ wr.frozen? ⟨g, i, none⟩ = false := LvRow.cell h.row h.len.symm hx
/-- A list of zeros is made, and laid. -/
theorem RdR.lay (h : RdR base g n M wr) {i c : Nat} {Z : Array Value} (hbw : base ≤ wr.heap.size)
    (hr : IRow (wr.alloc (.cells Z 3)) wr.heap.size (.slice (some ⟨wr.heap.size, 0, none⟩) c c) (List.replicate c 0)) :
    RdR base g n (M.set i ⟨.slice (some ⟨wr.heap.size, 0, none⟩) c c, List.replicate c 0⟩) ((wr.alloc (.cells Z 3)).setCell ⟨g, i, none⟩ (.slice (some ⟨wr.heap.size, 0, none⟩) c c)) := by
  have r1 := LvRow.alloc h.row (.cells Z 3)
  have r3 := LvRow.put r1 h.len.symm (i := i) ⟨.slice (some ⟨wr.heap.size, 0, none⟩) c c, List.replicate c 0⟩
  refine ⟨r3, fun y hy => ?_, h.apart.set fun q hq j y hj hy hq2 => ?_, by rw [List.length_set]; exact h.len, h.gb⟩
  · rcases List.mem_or_eq_of_mem_set hy with hy | rfl
    · exact IRow.far_l (IRow.below (h.own y hy) ((Below.refl wr.heap.size wr).alloc (Nat.le_refl _) _) (Nat.le_refl _)) r1
    · exact IRow.far_l (IRow.down hr hbw) r1
  · have b2 := (IRow.block (h.own y (List.mem_of_getElem? hy)) q hq2).2
    have : wr.heap.size = q := by simpa [Value.ownBlock] using hq
    omega
/-- A number is laid in a list. -/
theorem RdR.put (h : RdR base g n M wr) {i j c gi : Nat} {l : List Int} (hx : M[i]? = some ⟨.slice (some ⟨gi, 0, none⟩) c c, l⟩) (hc : c = l.length) (y : Int) :
    RdR base g n (M.set i ⟨.slice (some ⟨gi, 0, none⟩) c c, l.set j y⟩) (wr.setCell ⟨gi, j, none⟩ (.int .i64 y)) ∧ base ≤ gi ∧ wr.frozen? ⟨gi, j, none⟩ = false ∧ (j < c → ∃ u, wr.cell? ⟨gi, j, none⟩ = some u) := by
  subst hc
  have hx0 := h.own _ (List.mem_of_getElem? hx)
  have hir : IRow wr base (.slice (some ⟨gi, 0, none⟩) l.length l.length) l := hx0
  obtain ⟨hg1, hg2⟩ := IRow.block hir gi rfl
  have hst := (hir.stored j (.int .i64 y)).1
  have hrow : IRow (wr.setCell ⟨gi, j, none⟩ (.int .i64 y)) base (.slice (some ⟨gi, 0, none⟩) l.length l.length) (l.set j y) := by
    unfold IRow
    rw [List.length_set, List.map_set]
    exact hst
  have hi : i < M.length := (List.getElem?_eq_some_iff.1 hx).1
  have hfar : LvRow (wr.setCell ⟨gi, j, none⟩ (.int .i64 y)) base (.slice (some ⟨g, 0, none⟩) n n) M := own_far h.row (own_own_ne h.row hir lv_ne gi rfl) _
  refine ⟨⟨?_, fun z hz => ?_, h.apart.set fun q hq k z hk hz hq2 => ?_, by rw [List.length_set]; exact h.len, h.gb⟩, hg1, hir.frozenAt j, fun hj => ⟨intV l[j], (hir.cellAt j (by omega)).trans (by rw [List.getElem?_map, List.getElem?_eq_getElem hj]; rfl)⟩⟩
  · have e : lvals (M.set i ⟨.slice (some ⟨gi, 0, none⟩) l.length l.length, l.set j y⟩) = lvals M := by
      unfold lvals
      rw [List.map_set]
      apply List.ext_getElem?
      intro k
      rw [List.getElem?_set]
      split
      · rename_i e
        subst e
        rw [if_pos (by rw [List.length_map]; exact hi), List.getElem?_map, hx]
        rfl
      · rfl
    unfold LvRow
    rw [List.length_set, e]
    exact hfar
  · obtain ⟨k, hk⟩ := List.getElem?_of_mem hz
    rw [List.getElem?_set] at hk
    split at hk
    · obtain rfl := Option.some.inj hk
      exact hrow
    · rename_i hki
      exact own_far (h.own z (List.mem_of_getElem? hk)) (fun e => h.apart i k _ z hx hk hki gi rfl e) _
  · exact h.apart i k _ z hx hz (fun e => hk e.symm) q hq hq2
end
end Go.Proofs.Ytcfidpjhemjbjaa

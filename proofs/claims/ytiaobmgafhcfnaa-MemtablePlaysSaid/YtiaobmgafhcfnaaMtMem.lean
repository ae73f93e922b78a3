/- A table of entries in memory; none, laid, New, Len, Clear. -/
import Derived.Test.YtiaobmgafhcfnaaEntRange
import Derived.Test.YtiaobmgafhcfnaaEntLast
import Derived.Test.YtiaobmgafhcfnaaMtMath
namespace Go.Proofs.Ytiaobmgafhcfnaa
open Go.RowKit Go.Shelf
set_option linter.unusedVariables false

abbrev mtp (g : Nat) : Value := .pointer (some ⟨g, 0, none⟩)
/-- A table at a place, that New made, with these entries; F: the blocks that are its own. -/
def TabAt (w : World) (base g : Nat) (F : List Nat) (l : List EntS) : Prop :=
  ∃ v, Blok w g 46 #[mtp g, v] ∧ EntRow w base v l ∧ (∀ k, v.ownBlock = some k → k ∈ F) ∧ g ∈ F ∧ (∀ x ∈ F, base ≤ x ∧ x < w.heap.size) ∧ RiseE l ∧ ∀ x ∈ l, EntOk x
/-- A call that leaves a table behind. -/
def TabEnd (base g : Nat) (F : List Nat) (w : World) (r : Value) (l : List EntS) (e : Ending) (w' : World) : Prop :=
  ∃ F', e = .returned r ∧ TabAt w' base g F' l ∧ (∀ x ∈ F', x ∈ F ∨ w.heap.size ≤ x) ∧ Touch F w w'
section
variable {w w' : World} {base g : Nat} {F G : List Nat} {l : List EntS}
theorem TabAt.touch (h : TabAt w base g F l) (ht : Touch G w w') (hG : ∀ x ∈ F, x ∉ G) : TabAt w' base g F l := by
  obtain ⟨v, h1, h2, h3, h4, h5, h6, h7⟩ := h
  exact ⟨v, h1.touch ht (hG g h4), own_touch h2 ht (fun b hb => hG b (h3 b hb)), h3, h4, fun x hx => ⟨(h5 x hx).1, Nat.lt_of_lt_of_le (h5 x hx).2 ht.size⟩, h6, h7⟩
theorem TabAt.below (h : TabAt w base g F l) (hb : Below w.heap.size w w') : TabAt w' base g F l := h.touch (Touch.of_below hb) (fun _ _ => by simp)
theorem TabAt.drewN (h : TabAt w base g F l) (n : Nat) : TabAt (w.drewN n) base g F l := h.touch ((Touch.refl [] w).drewN n) (fun _ _ => by simp)
theorem TabAt.shape (h : TabAt w base g F l) : ∃ A c, w.cell? ⟨g, 0, none⟩ = some (mtp g) ∧ w.cell? ⟨g, 1, none⟩ = some (.slice A l.length c) ∧ w.frozen? ⟨g, 1, none⟩ = false ∧ EntRow w base (.slice A l.length c) l ∧ g < w.heap.size := by
  obtain ⟨v, h1, h2, h3, h4, h5, h6, h7⟩ := h
  obtain ⟨A, c, rfl, -⟩ := own_form h2
  exact ⟨A, c, h1.cell 0, h1.cell 1, h1.frozen 1, h2, h1.lt⟩
theorem TabAt.base_le (h : TabAt w base g F l) : base ≤ w.heap.size := by
  obtain ⟨v, h1, h2, h3, h4, h5, h6, h7⟩ := h
  have := h5 g h4
  omega
end

theorem info_tab : (Try.prog.info? 46).map (·.size) = some 2 := by kernel_rfl
theorem tsame_in (d : Nat) (p : Addr) (w : World) : (Op.equalIn (d + 1) 24 (.pointer (some p)) (.pointer (some p))).run Try.prog w = .ok true w := by
  cases hq : Try.prog.info? 46 with
  | none => have := info_tab; rw [hq] at this; cases this
  | some i =>
    have hi : i.size = 2 := by have := info_tab; rw [hq] at this; simpa using this
    simp [Op.equalIn, run_underlying Try.underlying24, sizeOf, typeInfo, hq, sameAddr]
theorem tnil_in (d : Nat) (p : Addr) (w : World) : (Op.equalIn (d + 1) 24 (.pointer none) (.pointer (some p))).run Try.prog w = .ok false w := by
  simp [Op.equalIn, run_underlying Try.underlying24]
theorem tsame_ptr (p : Addr) (w : World) : (binOp .neq 24 (.pointer (some p)) (.pointer (some p))).run Try.prog w = .ok (.bool false) w := by
  have he : (Op.equal 24 (.pointer (some p)) (.pointer (some p))).run Try.prog w = .ok true w := tsame_in 9999 p w
  simp only [binOp]
  simp [he]
theorem tnil_ptr (p : Addr) (w : World) : (binOp .neq 24 (.pointer none) (.pointer (some p))).run Try.prog w = .ok (.bool true) w := by
  have he : (Op.equal 24 (.pointer none) (.pointer (some p))).run Try.prog w = .ok false w := tnil_in 9999 p w
  simp only [binOp]
  simp [he]
set_option maxRecDepth 100000 in
theorem tnone_run {w : World} {g : Nat} (h : w.cell? ⟨g, 0, none⟩ = some (mtp g)) : Calls Try.prog 27 #[mtp g] w fun e w' => e = .returned (.bool false) ∧ w = w' := by
  have hsp := tsame_ptr ⟨g, 0, none⟩
  go_enter Try.func27, Try.ntmps27
  go_wp2
  go_ret
  exact ⟨rfl, rfl⟩
theorem tnone_nil (w : World) : Calls Try.prog 27 #[.pointer none] w fun e w' => e = .returned (.bool true) ∧ w = w' := by
  go_enter Try.func27, Try.ntmps27
  go_wp2
  go_ret
  exact ⟨rfl, rfl⟩
set_option maxRecDepth 100000 in
theorem tnone_bare {w : World} {g : Nat} (h : w.cell? ⟨g, 0, none⟩ = some (.pointer none)) : Calls Try.prog 27 #[mtp g] w fun e w' => e = .returned (.bool true) ∧ w = w' := by
  have hsp := tnil_ptr ⟨g, 0, none⟩
  go_enter Try.func27, Try.ntmps27
  go_wp2
  go_ret
  exact ⟨rfl, rfl⟩
/-- A table that is none. -/
def IsNone (w : World) (p : Value) : Prop := p = .pointer none ∨ ∃ g, p = mtp g ∧ w.cell? ⟨g, 0, none⟩ = some (.pointer none)
theorem IsNone.below {w w' : World} {p : Value} (h : IsNone w p) (hb : Below w.heap.size w w') : IsNone w' p := by
  rcases h with h | ⟨g, h1, h2⟩
  · exact Or.inl h
  · exact Or.inr ⟨g, h1, (hb.cell (p := ⟨g, 0, none⟩) (World.block_lt_of_cell? w _ h2)).trans h2⟩
theorem tnone_any {w : World} {p : Value} (h : IsNone w p) : Calls Try.prog 27 #[p] w fun e w' => e = .returned (.bool true) ∧ w = w' := by
  rcases h with rfl | ⟨g, rfl, h2⟩
  · exact tnone_nil w
  · exact tnone_bare h2

set_option maxRecDepth 100000 in
theorem laid_run {w : World} {g n c : Nat} {A : Option Addr} (h : w.cell? ⟨g, 0, none⟩ = some (mtp g)) (h1 : w.cell? ⟨g, 1, none⟩ = some (.slice A n c)) : Calls Try.prog 23 #[mtp g] w fun e w' => e = .returned (.slice A n c) ∧ w = w' := by
  have hn := Lib.hid (tnone_run h)
  go_enter Try.func23, Try.ntmps23
  go_wp2_with fail
  refine hn.out.mono ?_
  rintro e w' ⟨rfl, rfl⟩
  go_wp2
  go_ret
  exact ⟨rfl, rfl⟩
set_option maxRecDepth 100000 in
theorem laid_none {w : World} {p : Value} (h : IsNone w p) : Calls Try.prog 23 #[p] w fun e w' => e = .returned (.slice none 0 0) ∧ w = w' := by
  have hn := Lib.hid (tnone_any h)
  clear h
  go_enter Try.func23, Try.ntmps23
  go_wp2_with fail
  refine hn.out.mono ?_
  rintro e w' ⟨rfl, rfl⟩
  go_wp2
  go_ret
  exact ⟨rfl, rfl⟩
set_option maxRecDepth 100000 in
theorem tlen_run {w : World} {g base : Nat} {F : List Nat} {l : List EntS} (h : TabAt w base g F l) : Calls Try.prog 19 #[mtp g] w fun e w' => e = .returned (.int .i64 (l.length : Nat)) ∧ w = w' := by
  obtain ⟨A, c, c0, c1, -, -, -⟩ := h.shape
  have hn := Lib.hid (laid_run c0 c1)
  clear h c0 c1
  generalize l.length = n at *
  go_enter Try.func19, Try.ntmps19
  go_wp2_with fail
  refine hn.out.mono ?_
  rintro e w' ⟨rfl, rfl⟩
  go_wp2
  go_ret
  exact ⟨rfl, rfl⟩
set_option maxRecDepth 100000 in
theorem tlen_none {w : World} {p : Value} (h : IsNone w p) : Calls Try.prog 19 #[p] w fun e w' => e = .returned (.int .i64 0) ∧ w = w' := by
  have hn := Lib.hid (laid_none h)
  clear h
  go_enter Try.func19, Try.ntmps19
  go_wp2_with fail
  refine hn.out.mono ?_
  rintro e w' ⟨rfl, rfl⟩
  go_wp2
  go_ret
  exact ⟨rfl, rfl⟩

/-- New. -/
def NewEnd (w : World) (e : Ending) (w' : World) : Prop := e = .returned (mtp w.heap.size) ∧ TabAt w' w.heap.size w.heap.size [w.heap.size] [] ∧ Below w.heap.size w w' ∧ w.heap.size < w'.heap.size
set_option maxRecDepth 100000 in
theorem tnew_any (w : World) : Calls Try.prog 8 #[] w (NewEnd w) := by
  go_enter Try.func8, Try.ntmps8
  go_wp2
  go_ret
  have B1 : Blok (w.alloc (.cells #[mtp w.heap.size, .slice none 0 0] 46)) w.heap.size 46 #[mtp w.heap.size, .slice none 0 0] := Blok.new _ _ _
  have hb := (Below.refl w.heap.size w).alloc (Nat.le_refl _) (.cells #[mtp w.heap.size, .slice none 0 0] 46)
  exact ⟨rfl, ⟨.slice none 0 0, B1, EntRow.nil _ _, fun k hk => (by cases hk), by simp, fun x hx => by obtain rfl := List.mem_singleton.1 hx; exact ⟨Nat.le_refl _, B1.lt⟩, List.Pairwise.nil, fun x hx => by cases hx⟩, hb, B1.lt⟩
set_option maxRecDepth 100000 in
theorem tclear_run {w : World} {g base : Nat} {F : List Nat} {l : List EntS} (h : TabAt w base g F l) : Calls Try.prog 16 #[mtp g] w (TabEnd base g F w (.tuple #[]) []) := by
  have HH := Lib.hid h
  obtain ⟨A, c, c0, c1, f1, -, -⟩ := h.shape
  have hn := Lib.hid (tnone_run c0)
  clear h
  go_enter Try.func16, Try.ntmps16
  go_wp2_with fail
  refine hn.out.mono ?_
  rintro e w' ⟨rfl, rfl⟩
  go_wp2
  go_end0
  obtain ⟨v, h1, h2, h3, h4, h5, h6, h7⟩ := HH.out
  have B1 := h1.put 1 (.slice none 0 0)
  exact ⟨F, rfl, ⟨.slice none 0 0, B1, EntRow.nil _ _, fun k hk => (by cases hk), h4, fun x hx => ⟨(h5 x hx).1, by simpa [World.setCell] using (h5 x hx).2⟩, List.Pairwise.nil, fun x hx => by cases hx⟩, fun x hx => Or.inl hx, (Touch.refl F w).setCell (p := ⟨g, 1, none⟩) (Or.inl h4) _⟩
set_option maxRecDepth 100000 in
theorem tclear_none {w : World} {p : Value} (h : IsNone w p) : Calls Try.prog 16 #[p] w fun e w' => e = .returned (.tuple #[]) ∧ w = w' := by
  have hn := Lib.hid (tnone_any h)
  clear h
  go_enter Try.func16, Try.ntmps16
  go_wp2_with fail
  refine hn.out.mono ?_
  rintro e w' ⟨rfl, rfl⟩
  go_wp2
  go_end0
  exact ⟨rfl, rfl⟩
end Go.Proofs.Ytiaobmgafhcfnaa

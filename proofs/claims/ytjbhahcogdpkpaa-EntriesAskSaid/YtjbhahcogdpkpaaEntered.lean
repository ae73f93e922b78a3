/- The chapter's examples of layer 13. -/
import Derived.Test.YtjbhahcogdpkpaaEntSame
import Derived.Test.YtjbhahcogdpkpaaEntLastRef
import Derived.Test.YtjbhahcogdpkpaaEntSortStep
import Derived.Deep.DrawnRows
import Derived.Deep.DeepCutAuto
namespace Go.Proofs.Ytjbhahcogdpkpaa
open Go.RowKit Go.Shelf
set_option linter.unusedVariables false

def exL : List EntS := [⟨1, 0, 12⟩, ⟨1, 1, 30⟩, ⟨1, 1, 50⟩, ⟨3, 0, 70⟩]
theorem ex_rise : RiseE exL := sorted_rise (by decide)
theorem ex_ok : ∀ x ∈ exL, EntOk x := by
  intro x hx
  simp only [exL, List.mem_cons, List.not_mem_nil, or_false] at hx
  rcases hx with rfl | rfl | rfl | rfl <;> exact ⟨by decide, by decide, by decide, by decide, by decide⟩
abbrev exO : Obj := .cells #[.int .u64 1, .int .i64 0, .int .i64 12, .int .u64 1, .int .i64 1, .int .i64 30, .int .u64 1, .int .i64 1, .int .i64 50, .int .u64 3, .int .i64 0, .int .i64 70] 24
theorem ex_in (w : World) : EntsIn (w.alloc exO) (.slice (some ⟨w.heap.size, 0, none⟩) 4 4) exL := by
  refine Or.inr ⟨w.heap.size, 0, 4, rfl, Nat.le_refl _, by unfold maxLen; omega, by simp, fun i x hx j u hu => ?_⟩
  match i, hx with
  | 0, hx =>
    obtain rfl : (⟨1, 0, 12⟩ : EntS) = x := by simpa [exL] using hx
    match j, hu with
    | 0, hu => rw [← hu]; simp [entCells]
    | 1, hu => rw [← hu]; simp [entCells]
    | 2, hu => rw [← hu]; simp [entCells]
  | 1, hx =>
    obtain rfl : (⟨1, 1, 30⟩ : EntS) = x := by simpa [exL] using hx
    match j, hu with
    | 0, hu => rw [← hu]; simp [entCells]
    | 1, hu => rw [← hu]; simp [entCells]
    | 2, hu => rw [← hu]; simp [entCells]
  | 2, hx =>
    obtain rfl : (⟨1, 1, 50⟩ : EntS) = x := by simpa [exL] using hx
    match j, hu with
    | 0, hu => rw [← hu]; simp [entCells]
    | 1, hu => rw [← hu]; simp [entCells]
    | 2, hu => rw [← hu]; simp [entCells]
  | 3, hx =>
    obtain rfl : (⟨3, 0, 70⟩ : EntS) = x := by simpa [exL] using hx
    match j, hu with
    | 0, hu => rw [← hu]; simp [entCells]
    | 1, hu => rw [← hu]; simp [entCells]
    | 2, hu => rw [← hu]; simp [entCells]
abbrev exP : Obj := .cells #[.int .u64 1, .int .i64 1, .int .i64 50, .int .u64 1, .int .i64 1, .int .i64 30] 24
theorem ex_two (w : World) : EntsIn (w.alloc exP) (.slice (some ⟨w.heap.size, 0, none⟩) 2 2) [⟨1, 1, 50⟩, ⟨1, 1, 30⟩] := by
  refine Or.inr ⟨w.heap.size, 0, 2, rfl, Nat.le_refl _, by unfold maxLen; omega, by simp, fun i x hx j u hu => ?_⟩
  match i, hx with
  | 0, hx =>
    obtain rfl : (⟨1, 1, 50⟩ : EntS) = x := by simpa using hx
    match j, hu with
    | 0, hu => rw [← hu]; simp [entCells]
    | 1, hu => rw [← hu]; simp [entCells]
    | 2, hu => rw [← hu]; simp [entCells]
  | 1, hx =>
    obtain rfl : (⟨1, 1, 30⟩ : EntS) = x := by simpa using hx
    match j, hu with
    | 0, hu => rw [← hu]; simp [entCells]
    | 1, hu => rw [← hu]; simp [entCells]
    | 2, hu => rw [← hu]; simp [entCells]
/-- The list, and what is asked of it. -/
def ExAt (W : World) (b : Nat) : Prop := EntsIn W (.slice (some ⟨b, 0, none⟩) 4 4) exL
section
variable {W W0 : World} {b : Nat}
theorem ExAt.below (h : ExAt W0 b) (hb : Below W0.heap.size W0 W) : ExAt W b := EntsIn.below h hb (Nat.le_refl _)
theorem ex_s1 (h : ExAt W b) : Calls Try.prog 18 #[.slice (some ⟨b, 0, none⟩) 4 4, .int .u64 1, .int .i64 1] W fun e w' => e = .returned (.int .i64 1) ∧ Below W.heap.size W w' :=
  search_any _ exL 1 1 W h (by decide) ex_ok ex_rise
theorem ex_s2 (h : ExAt W b) : Calls Try.prog 18 #[.slice (some ⟨b, 0, none⟩) 4 4, .int .u64 2, .int .i64 0] W fun e w' => e = .returned (.int .i64 3) ∧ Below W.heap.size W w' :=
  search_any _ exL 2 0 W h (by decide) ex_ok ex_rise
theorem ex_s3 (h : ExAt W b) : Calls Try.prog 18 #[.slice (some ⟨b, 0, none⟩) 4 4, .int .u64 9, .int .i64 9] W fun e w' => e = .returned (.int .i64 4) ∧ Below W.heap.size W w' :=
  search_any _ exL 9 9 W h (by decide) ex_ok ex_rise
theorem ex_r1 (h : ExAt W b) : Calls Try.prog 15 #[.slice (some ⟨b, 0, none⟩) 4 4, .int .u64 1, .int .i64 1, .int .i64 5] W fun e w' => ∃ A c, e = .returned (.slice A 2 c) ∧ EntsIn w' (.slice A 2 c) [⟨1, 1, 30⟩, ⟨1, 1, 50⟩] ∧ Below W.heap.size W w' :=
  (range_any _ exL 1 1 5 W h (by decide) ex_ok ex_rise).mono fun e w' ⟨A, c, h1, h2, h3⟩ => ⟨A, c, h1, EntRow.in_ h2, h3⟩
theorem ex_r2 (h : ExAt W b) : Calls Try.prog 15 #[.slice (some ⟨b, 0, none⟩) 4 4, .int .u64 3, .int .i64 1, .int .i64 9] W fun e w' => ∃ A c, e = .returned (.slice A 0 c) ∧ Below W.heap.size W w' :=
  (range_any _ exL 3 1 9 W h (by decide) ex_ok ex_rise).mono fun e w' ⟨A, c, h1, h2, h3⟩ => ⟨A, c, h1, h3⟩
theorem ex_l1 (h : ExAt W b) : Calls Try.prog 16 #[.slice (some ⟨b, 0, none⟩) 4 4, .int .u64 1, .int .i64 1] W fun e w' => e = .returned (.tuple #[.agg #[.int .u64 1, .int .i64 1, .int .i64 50], .bool true]) ∧ Below W.heap.size W w' :=
  last_any _ exL 1 1 W h (by decide) ex_ok ex_rise
theorem ex_l2 (h : ExAt W b) : Calls Try.prog 16 #[.slice (some ⟨b, 0, none⟩) 4 4, .int .u64 1, .int .i64 (-1)] W fun e w' => e = .returned (.tuple #[.agg #[.int .u64 0, .int .i64 0, .int .i64 0], .bool false]) ∧ Below W.heap.size W w' :=
  last_any _ exL 1 (-1) W h (by decide) ex_ok ex_rise
theorem ex_o1 (h : ExAt W b) : Calls Try.prog 22 #[.slice (some ⟨b, 0, none⟩) 4 4] W fun e w' => e = .returned (.bool true) ∧ Below W.heap.size W w' :=
  sorted_any _ exL W h (by decide)
theorem ex_o2 (W : World) : Calls Try.prog 22 #[.slice (some ⟨W.heap.size, 0, none⟩) 2 2] (W.alloc exP) fun e w' => e = .returned (.bool false) ∧ Below (W.alloc exP).heap.size (W.alloc exP) w' :=
  sorted_any _ [⟨1, 1, 50⟩, ⟨1, 1, 30⟩] _ (ex_two W) (by decide)
theorem ex_less (W : World) : Calls Try.prog 10 #[.agg #[.int .u64 1, .int .i64 1, .int .i64 30], .agg #[.int .u64 1, .int .i64 1, .int .i64 50]] W fun e w' => e = .returned (.bool true) ∧ Below W.heap.size W w' :=
  less_any ⟨1, 1, 30⟩ ⟨1, 1, 50⟩ W
theorem ex_part (h : ExAt W b) : EntsIn W (.slice (some ⟨b, 3, none⟩) 2 3) [⟨1, 1, 30⟩, ⟨1, 1, 50⟩] := by
  rcases h with ⟨h, _⟩ | ⟨b', off, cap, e, h2, h3, h4, h5⟩
  · cases h
  · obtain ⟨e1, -, rfl⟩ := Value.slice.inj e
    injection e1 with e1
    injection e1 with e2 e3
    subst e2 e3
    refine Or.inr ⟨b, 3, 3, rfl, by decide, by unfold maxLen; omega, h4, fun i x hx j u hu => ?_⟩
    have := h5 (i + 1) x (by
      match i, hx with
      | 0, hx => exact hx
      | 1, hx => exact hx) j u hu
    rw [show 3 + (i * 3 + j) = 0 + ((i + 1) * 3 + j) by omega]
    exact this
theorem ex_same (h : ExAt W b) {A : Option Addr} {c : Nat} (hr : EntsIn W (.slice A 2 c) [⟨1, 1, 30⟩, ⟨1, 1, 50⟩]) : Calls Try.prog 20 #[.slice A 2 c, .slice (some ⟨b, 3, none⟩) 2 3] W fun e w' => e = .returned (.bool true) ∧ Below W.heap.size W w' :=
  (esame_any _ _ _ _ W hr (ex_part h) (by decide) (by decide)).mono fun e w' ⟨h1, n, h2⟩ => ⟨h1, by rw [h2]; exact below_drewN (Below.refl _ _) n⟩
theorem ExAt.cells (h : ExAt W b) : (W.cell? ⟨b, 3, none⟩ = some (.int .u64 1) ∧ W.cell? ⟨b, 4, none⟩ = some (.int .i64 1) ∧ W.cell? ⟨b, 5, none⟩ = some (.int .i64 30)) ∧ (W.cell? ⟨b, 6, none⟩ = some (.int .u64 1) ∧ W.cell? ⟨b, 7, none⟩ = some (.int .i64 1) ∧ W.cell? ⟨b, 8, none⟩ = some (.int .i64 50)) := by
  rcases h with ⟨h, _⟩ | ⟨b', off, cap, e, h2, h3, h4, h5⟩
  · cases h
  · obtain ⟨e1, -, rfl⟩ := Value.slice.inj e
    injection e1 with e1
    injection e1 with e2 e3
    subst e2 e3
    exact ⟨⟨h5 1 _ rfl 0 _ rfl, h5 1 _ rfl 1 _ rfl, h5 1 _ rfl 2 _ rfl⟩, ⟨h5 2 _ rfl 0 _ rfl, h5 2 _ rfl 1 _ rfl, h5 2 _ rfl 2 _ rfl⟩⟩
end
theorem hold_go {P : Prop} {W0 W W' : World} (hb : Below W.heap.size W W') (h : Below W0.heap.size W0 W ∧ P) : Below W0.heap.size W0 W' := bj h.1 hb
attribute [local go_sem ↓] Go.wp_at_zero Go.wp_at_succ
set_option maxHeartbeats 4000000 in
set_option maxRecDepth 100000 in
theorem entered_true (w : World) : Calls Try.prog 7 #[] w fun e w' => e = .returned (.bool true) ∧ Below w.heap.size w w' := by
  have X1 : ExAt (w.alloc exO) w.heap.size := ex_in w
  have hb1 : Below w.heap.size w (w.alloc exO) := (Below.refl _ _).alloc (Nat.le_refl _) _
  have HL1 := Lib.hid (ex_l1 X1)
  have HX1 := Lib.hid X1
  have HB1 := Lib.hid hb1
  clear X1 hb1
  go_enter Try.func7, Try.ntmps7
  go_wp2_with fail
  refine HL1.out.mono ?_
  rintro e w2 ⟨rfl, hb2⟩
  have X2 := HX1.out.below hb2
  have hbw2 := bj HB1.out hb2
  have E3 : EntAt (w2.alloc (.cells #[.int .u64 1, .int .i64 1, .int .i64 50] 24)) w2.heap.size 1 1 50 := Blok.new _ _ _
  have X3 := X2.below ((Below.refl w2.heap.size w2).alloc (Nat.le_refl _) (.cells #[.int .u64 1, .int .i64 1, .int .i64 50] 24))
  have hbw3 := hbw2.alloc hbw2.size (.cells #[.int .u64 1, .int .i64 1, .int .i64 50] 24)
  have HL2 := Lib.hid (ex_l2 X3)
  have HX3 := Lib.hid X3
  have HE3 := Lib.hid E3
  have HB3 := Lib.hid hbw3
  clear HX1 HB1 HL1 X2 E3 X3 hbw2 hbw3 hb2
  go_wp2_with fail
  refine HL2.out.mono ?_
  rintro e w4 ⟨rfl, hb4⟩
  obtain ⟨wz, hwz⟩ : ∃ wz, w4.alloc (.cells #[.int .u64 0, .int .i64 0, .int .i64 0] 24) = wz := ⟨_, rfl⟩
  have hbz : Below (w2.alloc (.cells #[.int .u64 1, .int .i64 1, .int .i64 50] 24)).heap.size (w2.alloc (.cells #[.int .u64 1, .int .i64 1, .int .i64 50] 24)) wz := by rw [← hwz]; exact hb4.alloc hb4.size _
  have Xz := Lib.hid (HX3.out.below hbz)
  have Ez : EntAt wz w2.heap.size 1 1 50 := Blok.below HE3.out hbz
  have hbw := bj HB3.out hbz
  obtain ⟨ga, hga⟩ : ∃ ga, w2.heap.size = ga := ⟨_, rfl⟩
  rw [hga] at Ez
  clear HX3 HE3 HB3 HL2 hb4 hbz
  have HA : Hid (∀ W, Below wz.heap.size wz W → ExAt W w.heap.size) := Lib.hid fun W hW => Xz.out.below hW
  have HS : Hid (∀ W, Below wz.heap.size wz W → Below wz.heap.size wz W ∧ (W.cell? ⟨w.heap.size, 3, none⟩ = some (.int .u64 1) ∧ W.cell? ⟨w.heap.size, 4, none⟩ = some (.int .i64 1) ∧ W.cell? ⟨w.heap.size, 5, none⟩ = some (.int .i64 30)) ∧ (W.cell? ⟨w.heap.size, 6, none⟩ = some (.int .u64 1) ∧ W.cell? ⟨w.heap.size, 7, none⟩ = some (.int .i64 1) ∧ W.cell? ⟨w.heap.size, 8, none⟩ = some (.int .i64 50)) ∧ (W.cell? ⟨ga, 0, none⟩ = some (.int .u64 1) ∧ W.cell? ⟨ga, 1, none⟩ = some (.int .i64 1) ∧ W.cell? ⟨ga, 2, none⟩ = some (.int .i64 50))) := Lib.hid fun W hW => ⟨hW, (HA.out W hW).cells.1, (HA.out W hW).cells.2, (EntAt.facts (Blok.below Ez hW)).1, (EntAt.facts (Blok.below Ez hW)).2.1, (EntAt.facts (Blok.below Ez hW)).2.2.1⟩
  have s0 := HS.out wz (Below.refl _ _)
  obtain ⟨-, ⟨k3, k4, k5⟩, ⟨k6, k7, k8⟩, ⟨a0, a1, a2⟩⟩ := s0
  have HBW := Lib.hid hbw
  clear Ez Xz hbw
  have T1 := Lib.hid fun W (h : Below wz.heap.size wz W ∧ (W.cell? ⟨w.heap.size, 3, none⟩ = some (.int .u64 1) ∧ W.cell? ⟨w.heap.size, 4, none⟩ = some (.int .i64 1) ∧ W.cell? ⟨w.heap.size, 5, none⟩ = some (.int .i64 30)) ∧ (W.cell? ⟨w.heap.size, 6, none⟩ = some (.int .u64 1) ∧ W.cell? ⟨w.heap.size, 7, none⟩ = some (.int .i64 1) ∧ W.cell? ⟨w.heap.size, 8, none⟩ = some (.int .i64 50)) ∧ (W.cell? ⟨ga, 0, none⟩ = some (.int .u64 1) ∧ W.cell? ⟨ga, 1, none⟩ = some (.int .i64 1) ∧ W.cell? ⟨ga, 2, none⟩ = some (.int .i64 50))) => ex_s1 (HA.out W h.1)
  have T2 := Lib.hid fun W (h : Below wz.heap.size wz W ∧ (W.cell? ⟨w.heap.size, 3, none⟩ = some (.int .u64 1) ∧ W.cell? ⟨w.heap.size, 4, none⟩ = some (.int .i64 1) ∧ W.cell? ⟨w.heap.size, 5, none⟩ = some (.int .i64 30)) ∧ (W.cell? ⟨w.heap.size, 6, none⟩ = some (.int .u64 1) ∧ W.cell? ⟨w.heap.size, 7, none⟩ = some (.int .i64 1) ∧ W.cell? ⟨w.heap.size, 8, none⟩ = some (.int .i64 50)) ∧ (W.cell? ⟨ga, 0, none⟩ = some (.int .u64 1) ∧ W.cell? ⟨ga, 1, none⟩ = some (.int .i64 1) ∧ W.cell? ⟨ga, 2, none⟩ = some (.int .i64 50))) => ex_s2 (HA.out W h.1)
  have T3 := Lib.hid fun W (h : Below wz.heap.size wz W ∧ (W.cell? ⟨w.heap.size, 3, none⟩ = some (.int .u64 1) ∧ W.cell? ⟨w.heap.size, 4, none⟩ = some (.int .i64 1) ∧ W.cell? ⟨w.heap.size, 5, none⟩ = some (.int .i64 30)) ∧ (W.cell? ⟨w.heap.size, 6, none⟩ = some (.int .u64 1) ∧ W.cell? ⟨w.heap.size, 7, none⟩ = some (.int .i64 1) ∧ W.cell? ⟨w.heap.size, 8, none⟩ = some (.int .i64 50)) ∧ (W.cell? ⟨ga, 0, none⟩ = some (.int .u64 1) ∧ W.cell? ⟨ga, 1, none⟩ = some (.int .i64 1) ∧ W.cell? ⟨ga, 2, none⟩ = some (.int .i64 50))) => ex_s3 (HA.out W h.1)
  have T4 := Lib.hid fun W (h : Below wz.heap.size wz W ∧ (W.cell? ⟨w.heap.size, 3, none⟩ = some (.int .u64 1) ∧ W.cell? ⟨w.heap.size, 4, none⟩ = some (.int .i64 1) ∧ W.cell? ⟨w.heap.size, 5, none⟩ = some (.int .i64 30)) ∧ (W.cell? ⟨w.heap.size, 6, none⟩ = some (.int .u64 1) ∧ W.cell? ⟨w.heap.size, 7, none⟩ = some (.int .i64 1) ∧ W.cell? ⟨w.heap.size, 8, none⟩ = some (.int .i64 50)) ∧ (W.cell? ⟨ga, 0, none⟩ = some (.int .u64 1) ∧ W.cell? ⟨ga, 1, none⟩ = some (.int .i64 1) ∧ W.cell? ⟨ga, 2, none⟩ = some (.int .i64 50))) => ex_r1 (HA.out W h.1)
  have T5 := Lib.hid fun W (h : Below wz.heap.size wz W ∧ (W.cell? ⟨w.heap.size, 3, none⟩ = some (.int .u64 1) ∧ W.cell? ⟨w.heap.size, 4, none⟩ = some (.int .i64 1) ∧ W.cell? ⟨w.heap.size, 5, none⟩ = some (.int .i64 30)) ∧ (W.cell? ⟨w.heap.size, 6, none⟩ = some (.int .u64 1) ∧ W.cell? ⟨w.heap.size, 7, none⟩ = some (.int .i64 1) ∧ W.cell? ⟨w.heap.size, 8, none⟩ = some (.int .i64 50)) ∧ (W.cell? ⟨ga, 0, none⟩ = some (.int .u64 1) ∧ W.cell? ⟨ga, 1, none⟩ = some (.int .i64 1) ∧ W.cell? ⟨ga, 2, none⟩ = some (.int .i64 50))) => ex_r2 (HA.out W h.1)
  have T6 := Lib.hid fun W (h : Below wz.heap.size wz W ∧ (W.cell? ⟨w.heap.size, 3, none⟩ = some (.int .u64 1) ∧ W.cell? ⟨w.heap.size, 4, none⟩ = some (.int .i64 1) ∧ W.cell? ⟨w.heap.size, 5, none⟩ = some (.int .i64 30)) ∧ (W.cell? ⟨w.heap.size, 6, none⟩ = some (.int .u64 1) ∧ W.cell? ⟨w.heap.size, 7, none⟩ = some (.int .i64 1) ∧ W.cell? ⟨w.heap.size, 8, none⟩ = some (.int .i64 50)) ∧ (W.cell? ⟨ga, 0, none⟩ = some (.int .u64 1) ∧ W.cell? ⟨ga, 1, none⟩ = some (.int .i64 1) ∧ W.cell? ⟨ga, 2, none⟩ = some (.int .i64 50))) => ex_o1 (HA.out W h.1)
  have T7 := Lib.hid fun W A c (h : Below wz.heap.size wz W ∧ (W.cell? ⟨w.heap.size, 3, none⟩ = some (.int .u64 1) ∧ W.cell? ⟨w.heap.size, 4, none⟩ = some (.int .i64 1) ∧ W.cell? ⟨w.heap.size, 5, none⟩ = some (.int .i64 30)) ∧ (W.cell? ⟨w.heap.size, 6, none⟩ = some (.int .u64 1) ∧ W.cell? ⟨w.heap.size, 7, none⟩ = some (.int .i64 1) ∧ W.cell? ⟨w.heap.size, 8, none⟩ = some (.int .i64 50)) ∧ (W.cell? ⟨ga, 0, none⟩ = some (.int .u64 1) ∧ W.cell? ⟨ga, 1, none⟩ = some (.int .i64 1) ∧ W.cell? ⟨ga, 2, none⟩ = some (.int .i64 50))) (hr : EntsIn W (.slice A 2 c) [⟨1, 1, 30⟩, ⟨1, 1, 50⟩]) => ex_same (HA.out W h.1) hr
  have T8 := Lib.hid ex_less
  have T9 := Lib.hid ex_o2
  have HWZ := Lib.hid hwz
  have HGA := Lib.hid hga
  clear HA hwz hga
  go_wp2_with fail
  rw [HWZ.out, HGA.out]
  dsimp only [List.append]
  go_region_held3 (fun W => Below wz.heap.size wz W ∧ (W.cell? ⟨w.heap.size, 3, none⟩ = some (.int .u64 1) ∧ W.cell? ⟨w.heap.size, 4, none⟩ = some (.int .i64 1) ∧ W.cell? ⟨w.heap.size, 5, none⟩ = some (.int .i64 30)) ∧ (W.cell? ⟨w.heap.size, 6, none⟩ = some (.int .u64 1) ∧ W.cell? ⟨w.heap.size, 7, none⟩ = some (.int .i64 1) ∧ W.cell? ⟨w.heap.size, 8, none⟩ = some (.int .i64 50)) ∧ (W.cell? ⟨ga, 0, none⟩ = some (.int .u64 1) ∧ W.cell? ⟨ga, 1, none⟩ = some (.int .i64 1) ∧ W.cell? ⟨ga, 2, none⟩ = some (.int .i64 50)))
    (first | (with_reducible assumption) | ((with_reducible refine HS.out _ ?_); (repeat' (first | (with_reducible assumption) | (with_reducible exact Below.refl _ _) | (with_reducible refine Below.drew ?_) | (with_reducible refine st_alloc ?_ _) | (with_reducible exact And.left (by with_reducible assumption)))); done) | fail)
    (first
    | (go_at_call 18; ((with_reducible refine (T1.out _ (by with_reducible assumption)).mono ?_); rintro e w' ⟨rfl, hb⟩; have hB := hold_go hb (by with_reducible assumption)))
    | (go_at_call 18; ((with_reducible refine (T2.out _ (by with_reducible assumption)).mono ?_); rintro e w' ⟨rfl, hb⟩; have hB := hold_go hb (by with_reducible assumption)))
    | (go_at_call 18; ((with_reducible refine (T3.out _ (by with_reducible assumption)).mono ?_); rintro e w' ⟨rfl, hb⟩; have hB := hold_go hb (by with_reducible assumption)))
    | (go_at_call 15; ((with_reducible refine (T4.out _ (by with_reducible assumption)).mono ?_); rintro e w' ⟨A5, c5, rfl, hr5, hb⟩; have hB := hold_go hb (by with_reducible assumption)))
    | (go_at_call 15; ((with_reducible refine (T5.out _ (by with_reducible assumption)).mono ?_); rintro e w' ⟨A6, c6, rfl, hb⟩; have hB := hold_go hb (by with_reducible assumption)))
    | (go_at_call 20; ((with_reducible refine (T7.out _ _ _ (by with_reducible assumption) (by with_reducible assumption)).mono ?_); rintro e w' ⟨rfl, hb⟩; have hB := hold_go hb (by with_reducible assumption)))
    | (go_at_call 10; ((with_reducible refine (T8.out _).mono ?_); rintro e w' ⟨rfl, hb⟩; have hB := hold_go hb (by with_reducible assumption)))
    | (go_at_call 22; ((with_reducible refine (T6.out _ (by with_reducible assumption)).mono ?_); rintro e w' ⟨rfl, hb⟩; have hB := hold_go hb (by with_reducible assumption)))
    | (go_at_call 22; ((with_reducible refine (T9.out _).mono ?_); rintro e w' ⟨rfl, hb⟩; have hB := hold_go hb (by with_reducible assumption)))
    | fail)
  all_goals
    go_wp2
    go_ret
    exact ⟨rfl, bj HBW.out (And.left (by with_reducible assumption))⟩
end Go.Proofs.Ytjbhahcogdpkpaa

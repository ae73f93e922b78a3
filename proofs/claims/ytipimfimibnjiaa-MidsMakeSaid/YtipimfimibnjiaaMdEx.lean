/- The chapter's midpoints. -/
import Derived.Test.YtipimfimibnjiaaMdSame
import Derived.Test.YtipimfimibnjiaaMdMakeRef
import Derived.Test.YtipimfimibnjiaaMdNarrow
import Derived.Deep.DeepMust
namespace Go.Proofs.Ytipimfimibnjiaa
open Go.RowKit Go.Shelf
set_option linter.unusedVariables false
attribute [local go_sem ↓] Go.wp_at_zero Go.wp_at_succ

set_option maxRecDepth 100000 in
theorem at_run {w : World} {v : Value} {m : List MidS} (z lo hi : Int) (hm : MidsIn w v m) (hn : m.length ≤ 1000000) (h : narM ⟨0, z, 0⟩ m 20 = (lo, hi)) :
    Calls Try.prog 17 #[v, .int .i64 z, .int .i64 lo, .int .i64 hi] w fun e w' => e = .returned (.bool true) ∧ Below w.heap.size w w' := by
  have H1 : Hid (Calls Try.prog 13 #[v, .int .i64 20, .agg #[.int .u64 0, .int .i64 z, .int .i64 0]] w (NarEnd (lo, hi) w)) := Lib.hid (by rw [← h]; exact narrow_any v m 20 ⟨0, z, 0⟩ w hm hn)
  clear h hm
  have t1 : (lo == lo) = true := beq_self_eq_true _
  have t2 : (hi == hi) = true := beq_self_eq_true _
  go_enter Try.func17, Try.ntmps17
  go_wp2_with fail
  refine H1.out.mono ?_
  rintro e w1 ⟨rfl, hb⟩
  go_wp2
  go_ret
  exact ⟨rfl, hb⟩
def exM : List MidS := [⟨⟨0, 0, 0⟩, 0⟩, ⟨⟨0, 8, 0⟩, 8⟩, ⟨⟨0, 16, 0⟩, 16⟩, ⟨⟨0, 19, 0⟩, 19⟩]
theorem exM_is : midsL (rowE 20) = exM := by decide +kernel
abbrev exMO : Obj := .cells #[.int .u64 0, .int .i64 0, .int .i64 0, .int .i64 0, .int .u64 0, .int .i64 8, .int .i64 0, .int .i64 8, .int .u64 0, .int .i64 16, .int .i64 0, .int .i64 16, .int .u64 0, .int .i64 19, .int .i64 0, .int .i64 19] 41
theorem exM_in (w : World) : MidsIn (w.alloc exMO) (.slice (some ⟨w.heap.size, 0, none⟩) 4 4) exM := by
  refine Or.inr ⟨w.heap.size, 0, 4, rfl, Nat.le_refl _, by unfold maxLen; omega, by simp, fun i x hx j u hu => ?_⟩
  match i, hx with
  | 0, hx =>
    obtain rfl : (⟨⟨0, 0, 0⟩, 0⟩ : MidS) = x := by simpa [exM] using hx
    match j, hu with
    | 0, hu => rw [← hu]; simp [midCells]
    | 1, hu => rw [← hu]; simp [midCells]
    | 2, hu => rw [← hu]; simp [midCells]
    | 3, hu => rw [← hu]; simp [midCells]
  | 1, hx =>
    obtain rfl : (⟨⟨0, 8, 0⟩, 8⟩ : MidS) = x := by simpa [exM] using hx
    match j, hu with
    | 0, hu => rw [← hu]; simp [midCells]
    | 1, hu => rw [← hu]; simp [midCells]
    | 2, hu => rw [← hu]; simp [midCells]
    | 3, hu => rw [← hu]; simp [midCells]
  | 2, hx =>
    obtain rfl : (⟨⟨0, 16, 0⟩, 16⟩ : MidS) = x := by simpa [exM] using hx
    match j, hu with
    | 0, hu => rw [← hu]; simp [midCells]
    | 1, hu => rw [← hu]; simp [midCells]
    | 2, hu => rw [← hu]; simp [midCells]
    | 3, hu => rw [← hu]; simp [midCells]
  | 3, hx =>
    obtain rfl : (⟨⟨0, 19, 0⟩, 19⟩ : MidS) = x := by simpa [exM] using hx
    match j, hu with
    | 0, hu => rw [← hu]; simp [midCells]
    | 1, hu => rw [← hu]; simp [midCells]
    | 2, hu => rw [← hu]; simp [midCells]
    | 3, hu => rw [← hu]; simp [midCells]
section
variable {W : World} {A : Option Addr} {c : Nat}
theorem ex_same (h : MidsIn W (.slice A 4 c) exM) {g : Nat} (hg : W.heap.size = g) :
    Calls Try.prog 9 #[.slice A 4 c, .slice (some ⟨g, 0, none⟩) 4 4] (W.alloc exMO) fun e w' => e = .returned (.bool true) ∧ Below W.heap.size W w' := by
  subst hg
  have hb : Below W.heap.size W (W.alloc exMO) := (Below.refl _ _).alloc (Nat.le_refl _) _
  refine (msame_kept (q := true) (h.below hb (Nat.le_refl _)) (exM_in W) (by decide) (by decide) (by decide)).mono ?_
  rintro e w' ⟨rfl, h2⟩
  exact ⟨rfl, bj hb h2⟩
theorem ex_same_drew (h : MidsIn W (.slice A 4 c) exM) {g : Nat} (hg : W.heap.size = g) :
    Calls Try.prog 9 #[.slice A 4 c, .slice (some ⟨g, 0, none⟩) 4 4] (W.alloc exMO).drew fun e w' => e = .returned (.bool true) ∧ Below W.heap.size W w' := by
  subst hg
  have hb : Below W.heap.size W (W.alloc exMO).drew := ((Below.refl _ _).alloc (Nat.le_refl _) _).drew
  have hi : MidsIn (W.alloc exMO).drew (.slice (some ⟨W.heap.size, 0, none⟩) 4 4) exM := exM_in W
  refine (msame_kept (q := true) (h.below hb (Nat.le_refl _)) hi (by decide) (by decide) (by decide)).mono ?_
  rintro e w' ⟨rfl, h2⟩
  exact ⟨rfl, bj hb h2⟩
theorem ex_at1 (h : MidsIn W (.slice A 4 c) exM) : Calls Try.prog 17 #[.slice A 4 c, .int .i64 9, .int .i64 9, .int .i64 16] W fun e w' => e = .returned (.bool true) ∧ Below W.heap.size W w' := at_run 9 9 16 h (by decide) (by decide +kernel)
theorem ex_at2 (h : MidsIn W (.slice A 4 c) exM) : Calls Try.prog 17 #[.slice A 4 c, .int .i64 8, .int .i64 1, .int .i64 8] W fun e w' => e = .returned (.bool true) ∧ Below W.heap.size W w' := at_run 8 1 8 h (by decide) (by decide +kernel)
theorem ex_at3 (h : MidsIn W (.slice A 4 c) exM) : Calls Try.prog 17 #[.slice A 4 c, .int .i64 0, .int .i64 0, .int .i64 0] W fun e w' => e = .returned (.bool true) ∧ Below W.heap.size W w' := at_run 0 0 0 h (by decide) (by decide +kernel)
theorem ex_at4 (h : MidsIn W (.slice A 4 c) exM) : Calls Try.prog 17 #[.slice A 4 c, .int .i64 25, .int .i64 20, .int .i64 20] W fun e w' => e = .returned (.bool true) ∧ Below W.heap.size W w' := at_run 25 20 20 h (by decide) (by decide +kernel)
end
/-- The cells that are read. -/
abbrev RCells (g : Nat) (w : World) : Prop :=
  (w.cell? ⟨g, 0, none⟩ = some (.int .u64 0) ∧ w.cell? ⟨g, 1, none⟩ = some (.int .i64 0) ∧ w.cell? ⟨g, 2, none⟩ = some (.int .i64 0)) ∧ (w.cell? ⟨g, 24, none⟩ = some (.int .u64 0) ∧ w.cell? ⟨g, 25, none⟩ = some (.int .i64 8) ∧ w.cell? ⟨g, 26, none⟩ = some (.int .i64 0)) ∧
  (w.cell? ⟨g, 48, none⟩ = some (.int .u64 0) ∧ w.cell? ⟨g, 49, none⟩ = some (.int .i64 16) ∧ w.cell? ⟨g, 50, none⟩ = some (.int .i64 0)) ∧ (w.cell? ⟨g, 57, none⟩ = some (.int .u64 0) ∧ w.cell? ⟨g, 58, none⟩ = some (.int .i64 19) ∧ w.cell? ⟨g, 59, none⟩ = some (.int .i64 0))
theorem row_cells {w : World} {base c : Nat} {A : Option Addr} (h : EntRow w base (.slice A 20 c) (rowE 20)) : ∃ g, A = some ⟨g, 0, none⟩ ∧ g < w.heap.size ∧ RCells g w := by
  have h' := h
  rcases h.2 with ⟨hv, h0⟩ | ⟨g, cap, cur, hv, hg, hh, hn, hm, hsz, ht⟩
  · exact absurd h0 (by decide)
  · obtain ⟨rfl, -, rfl⟩ := Value.slice.inj hv
    refine ⟨g, rfl, (Array.getElem?_eq_some_iff.1 hh).1, ?_⟩
    have q : ∀ j u, (entFlat (rowE 20))[j]? = some u → w.cell? ⟨g, j, none⟩ = some u := fun j u hu => (h'.cellAt j (by have := (List.getElem?_eq_some_iff.1 hu).1; rw [entFlat_length, rowE_length] at this; exact this)).trans hu
    exact ⟨⟨q 0 _ rfl, q 1 _ rfl, q 2 _ rfl⟩, ⟨q 24 _ rfl, q 25 _ rfl, q 26 _ rfl⟩, ⟨q 48 _ rfl, q 49 _ rfl, q 50 _ rfl⟩, q 57 _ rfl, q 58 _ rfl, q 59 _ rfl⟩
theorem RCells.below {w w' : World} {g : Nat} (h : RCells g w) (hg : g < w.heap.size) (hb : Below w.heap.size w w') : RCells g w' := by
  have q : ∀ j, w'.cell? ⟨g, j, none⟩ = w.cell? ⟨g, j, none⟩ := fun j => hb.cell (p := ⟨g, j, none⟩) hg
  unfold RCells at *
  simp only [q]
  exact h
def MidEnd (w : World) (e : Ending) (w' : World) : Prop := e = .returned (.bool true) ∧ Below w.heap.size w w'
theorem mhold {P : Prop} {W0 W W' : World} (hb : Below W.heap.size W W') (h : Below W0.heap.size W0 W ∧ P) : Below W0.heap.size W0 W' := bj h.1 hb
set_option maxHeartbeats 4000000 in
set_option maxRecDepth 100000 in
theorem middle_true (w : World) : Calls Try.prog 8 #[] w (MidEnd w) := by
  have HROW := Lib.hid (row_run 20 w (by decide))
  unfold EntsOut at HROW
  rw [rowE_length] at HROW
  go_enter Try.func8, Try.ntmps8
  go_wp2_with fail
  refine HROW.out.mono ?_
  rintro e w1 ⟨A1, c1, rfl, hrow, hb1⟩
  have HM := Lib.hid (mmake_any _ _ w1 (EntRow.in_ hrow) (by rw [rowE_length]; decide))
  rw [exM_is] at HM
  unfold MidsOut at HM
  rw [show exM.length = 4 from rfl] at HM
  obtain ⟨g, rfl, hg, hc⟩ := row_cells hrow
  have HCC := Lib.hid (show ∀ W, Below w1.heap.size w1 W → RCells g W from fun W hW => hc.below hg hW)
  clear hrow HROW hc
  go_wp2_with fail
  refine HM.out.mono ?_
  rintro e w2 ⟨A2, c2, rfl, hrow2, hb2⟩
  have HMI := Lib.hid (show ∀ W, Below w2.heap.size w2 W → MidsIn W (.slice A2 4 c2) exM from fun W hW => (MidRow.in_ hrow2).below hW (Nat.le_refl _))
  have HS := Lib.hid (show ∀ W, Below w2.heap.size w2 W → Below w2.heap.size w2 W ∧ RCells g W from fun W hW => ⟨hW, HCC.out W (bj hb2 hW)⟩)
  have T0 := Lib.hid (show ∀ W, Below w2.heap.size w2 W ∧ RCells g W → Calls Try.prog 9 #[.slice A2 4 c2, .slice (some ⟨W.heap.size, 0, none⟩) 4 4] (W.alloc exMO) fun e w' => e = .returned (.bool true) ∧ Below W.heap.size W w' from fun W hW => ex_same (HMI.out W hW.1) rfl)
  have T5 := Lib.hid (show ∀ W, Below w2.heap.size w2 W ∧ RCells g W → Calls Try.prog 9 #[.slice A2 4 c2, .slice (some ⟨W.heap.size, 0, none⟩) 4 4] (W.alloc exMO).drew fun e w' => e = .returned (.bool true) ∧ Below W.heap.size W w' from fun W hW => ex_same_drew (HMI.out W hW.1) rfl)
  have T1 := Lib.hid (show ∀ W, Below w2.heap.size w2 W ∧ RCells g W → Calls Try.prog 17 #[.slice A2 4 c2, .int .i64 9, .int .i64 9, .int .i64 16] W fun e w' => e = .returned (.bool true) ∧ Below W.heap.size W w' from fun W hW => ex_at1 (HMI.out W hW.1))
  have T2 := Lib.hid (show ∀ W, Below w2.heap.size w2 W ∧ RCells g W → Calls Try.prog 17 #[.slice A2 4 c2, .int .i64 8, .int .i64 1, .int .i64 8] W fun e w' => e = .returned (.bool true) ∧ Below W.heap.size W w' from fun W hW => ex_at2 (HMI.out W hW.1))
  have T3 := Lib.hid (show ∀ W, Below w2.heap.size w2 W ∧ RCells g W → Calls Try.prog 17 #[.slice A2 4 c2, .int .i64 0, .int .i64 0, .int .i64 0] W fun e w' => e = .returned (.bool true) ∧ Below W.heap.size W w' from fun W hW => ex_at3 (HMI.out W hW.1))
  have T4 := Lib.hid (show ∀ W, Below w2.heap.size w2 W ∧ RCells g W → Calls Try.prog 17 #[.slice A2 4 c2, .int .i64 25, .int .i64 20, .int .i64 20] W fun e w' => e = .returned (.bool true) ∧ Below W.heap.size W w' from fun W hW => ex_at4 (HMI.out W hW.1))
  have HBW := Lib.hid (bj hb1 hb2)
  have s0 := HS.out w2 (Below.refl _ _)
  obtain ⟨-, ⟨k0, k1, k2⟩, ⟨k3, k4, k5⟩, ⟨k6, k7, k8⟩, k9, ka, kb⟩ := s0
  clear hrow2 HMI hb1 hb2 HM HCC hg
  go_wp2_with fail
  go_region_held3 (fun W => Below w2.heap.size w2 W ∧ ((W.cell? ⟨g, 0, none⟩ = some (.int .u64 0) ∧ W.cell? ⟨g, 1, none⟩ = some (.int .i64 0) ∧ W.cell? ⟨g, 2, none⟩ = some (.int .i64 0)) ∧ (W.cell? ⟨g, 24, none⟩ = some (.int .u64 0) ∧ W.cell? ⟨g, 25, none⟩ = some (.int .i64 8) ∧ W.cell? ⟨g, 26, none⟩ = some (.int .i64 0)) ∧
      (W.cell? ⟨g, 48, none⟩ = some (.int .u64 0) ∧ W.cell? ⟨g, 49, none⟩ = some (.int .i64 16) ∧ W.cell? ⟨g, 50, none⟩ = some (.int .i64 0)) ∧ (W.cell? ⟨g, 57, none⟩ = some (.int .u64 0) ∧ W.cell? ⟨g, 58, none⟩ = some (.int .i64 19) ∧ W.cell? ⟨g, 59, none⟩ = some (.int .i64 0))))
    (first | (with_reducible assumption) | ((with_reducible refine HS.out _ ?_); (repeat' (first | (with_reducible assumption) | (with_reducible exact Below.refl _ _) | (with_reducible refine Below.drew ?_) | (with_reducible refine st_alloc ?_ _) | (with_reducible exact And.left (by with_reducible assumption)))); done) | fail)
    (first
    | (go_at_call 9; ((with_reducible refine (T0.out _ (by first | with_reducible assumption | (with_reducible exact HS.out _ (Below.refl _ _)))).mono ?_); rintro e w' ⟨rfl, hb⟩; have hB := mhold hb (by first | with_reducible assumption | exact HS.out _ (Below.refl _ _))))
    | (go_at_call 9; ((with_reducible refine (T5.out _ (by first | with_reducible assumption | (with_reducible exact HS.out _ (Below.refl _ _)))).mono ?_); rintro e w' ⟨rfl, hb⟩; have hB := mhold hb (by first | with_reducible assumption | exact HS.out _ (Below.refl _ _))))
    | (go_at_call 17; ((with_reducible refine (T1.out _ (by first | with_reducible assumption | (with_reducible exact HS.out _ (Below.refl _ _)))).mono ?_); rintro e w' ⟨rfl, hb⟩; have hB := mhold hb (by first | with_reducible assumption | exact HS.out _ (Below.refl _ _))))
    | (go_at_call 17; ((with_reducible refine (T2.out _ (by first | with_reducible assumption | (with_reducible exact HS.out _ (Below.refl _ _)))).mono ?_); rintro e w' ⟨rfl, hb⟩; have hB := mhold hb (by first | with_reducible assumption | exact HS.out _ (Below.refl _ _))))
    | (go_at_call 17; ((with_reducible refine (T3.out _ (by first | with_reducible assumption | (with_reducible exact HS.out _ (Below.refl _ _)))).mono ?_); rintro e w' ⟨rfl, hb⟩; have hB := mhold hb (by first | with_reducible assumption | exact HS.out _ (Below.refl _ _))))
    | (go_at_call 17; ((with_reducible refine (T4.out _ (by first | with_reducible assumption | (with_reducible exact HS.out _ (Below.refl _ _)))).mono ?_); rintro e w' ⟨rfl, hb⟩; have hB := mhold hb (by first | with_reducible assumption | exact HS.out _ (Below.refl _ _))))
    | fail)
  all_goals
    go_wp2
    go_ret
    exact ⟨rfl, bj HBW.out (And.left (by with_reducible assumption))⟩
end Go.Proofs.Ytipimfimibnjiaa

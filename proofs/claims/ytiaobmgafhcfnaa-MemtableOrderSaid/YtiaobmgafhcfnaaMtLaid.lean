/- lay: the program's. -/
import Derived.Test.YtiaobmgafhcfnaaMtLay
namespace Go.Proofs.Ytiaobmgafhcfnaa
open Go.RowKit Go.Shelf
set_option linter.unusedVariables false
attribute [local go_sem ↓] Go.wp_at_zero Go.wp_at_succ

set_option maxHeartbeats 4000000 in
set_option maxRecDepth 100000 in
theorem lay_run {w : World} {base g : Nat} {F : List Nat} {l : List EntS} {x : EntS} (h : TabAt w base g F l) (hx : EntOk x) (hn : l.length ≤ 100000) (hne : x ∉ l) :
    Calls Try.prog 31 #[mtp g, .int .i64 (posE l x : Nat), entB x] w (TabEnd base g F w (.tuple #[]) (layEn l x)) := by
  have HT := Lib.hid h
  obtain ⟨v, h1, h2, h3, h4, h5, h6, h7⟩ := h
  obtain ⟨A, c, rfl, hnc, hcm, -, -⟩ := own_form h2
  have hp := posE_le l x
  obtain ⟨n, hnn⟩ : ∃ n, n = l.length := ⟨_, rfl⟩
  obtain ⟨k, hk⟩ : ∃ k, k = posE l x := ⟨_, rfl⟩
  have HL := Lib.hid (lay_new hne)
  rw [← hk] at hp HL ⊢
  rw [← hnn] at hp hnc h1 h2 h3 hn
  have hin : EntsIn w (.slice A n c) l := by rw [hnn] at h2 ⊢; exact EntRow.in_ h2
  obtain ⟨rt, rs, rk⟩ := row_take h2 hnn hp
  have E0 : EnAt (w.alloc (.cells #[.int .u64 (x.h : Nat), .int .i64 x.v, .int .i64 x.p] 32)) w.heap.size x.h x.v x.p := Blok.new _ _ _
  have hT1 : Touch [] w (w.alloc (.cells #[.int .u64 (x.h : Nat), .int .i64 x.v, .int .i64 x.p] 32)) := (Touch.refl [] w).alloc _
  obtain ⟨B, hB⟩ : ∃ B, w.heap.size = B := ⟨_, rfl⟩
  rw [hB] at E0
  obtain ⟨w1, hw1⟩ : ∃ w1, w.alloc (.cells #[.int .u64 (x.h : Nat), .int .i64 x.v, .int .i64 x.p] 32) = w1 := ⟨_, rfl⟩
  rw [hw1] at E0 hT1
  have hin1 : EntsIn w1 (.slice A n c) l := hin.below (B := w.heap.size) (hT1.below (Nat.le_refl _) (fun x hx => by cases hx)) (Nat.le_refl _)
  have g1 : Blok w1 g 46 #[mtp g, .slice A n c] := h1.touch hT1 (by simp)
  obtain ⟨A2, c2, q2, p2⟩ := ents_from hin1 (k := k) (by omega)
  have q1 := slice_at (A := A) (n := n) rk
  have q3 := slice_to (A := A) (n := n) rk rs
  rw [← hnn] at q2 p2
  have HP := Lib.hid p2
  have HS : Hid (∀ W, Below w1.heap.size w1 W → Below w1.heap.size w1 W ∧ W.cell? ⟨g, 1, none⟩ = some (.slice A n c) ∧ W.cell? ⟨B, 0, none⟩ = some (.int .u64 (x.h : Nat)) ∧ W.cell? ⟨B, 1, none⟩ = some (.int .i64 x.v) ∧ W.cell? ⟨B, 2, none⟩ = some (.int .i64 x.p)) := Lib.hid fun W hW =>
    ⟨hW, (hW.cell (p := ⟨g, 1, none⟩) g1.lt).trans (g1.cell 1), (hW.cell (p := ⟨B, 0, none⟩) E0.lt).trans (E0.cell 0), (hW.cell (p := ⟨B, 1, none⟩) E0.lt).trans (E0.cell 1), (hW.cell (p := ⟨B, 2, none⟩) E0.lt).trans (E0.cell 2)⟩
  have HBb : Hid (∀ W, Below w1.heap.size w1 W → w1.heap.size ≤ W.heap.size) := Lib.hid fun W hW => hW.size
  have HD : Hid ((l.drop k).length ≤ 100000) := Lib.hid (by rw [List.length_drop, ← hnn]; omega)
  have HEND : Hid (∀ V2 V3 v3, Below w1.heap.size w1 V2 → V2.grownBy V3 (Value.slice A n c).ownBlock → EntRow V3 base v3 (l.take k ++ ([x] ++ l.drop k)) → (v3.ownBlock = (Value.slice A n c).ownBlock ∨ v3.ownBlock = some V2.heap.size) → TabEnd base g F w (.tuple #[]) (layEn l x) (.returned (.tuple #[])) (V3.setCell ⟨g, 1, none⟩ v3)) :=
    Lib.hid fun V2 V3 v3 a1 a2 a3 a4 => laid_end HT.out hx rfl h2 h3 hT1 a1 a2 (by rw [HL.out]; exact a3) a4
  have HG : Hid (∀ V2, Below w1.heap.size w1 V2 → Blok V2 g 46 #[mtp g, .slice A n c] ∧ EntRow V2 base (.slice A k c) (l.take k) ∧ base ≤ V2.heap.size) := Lib.hid fun V2 a => by
    have hb2 : Below w.heap.size w V2 := (hT1.below (Nat.le_refl _) (fun x hx => by cases hx)).trans (a.mono hT1.size)
    exact ⟨g1.touch (Touch.of_below a) (by simp), EntRow.below rt hb2 (Nat.le_refl _), Nat.le_trans (h5 g h4).1 (Nat.le_trans (Nat.le_of_lt (h5 g h4).2) hb2.size)⟩
  have HNE : Hid ((Value.slice A k c).ownBlock = (Value.slice A n c).ownBlock) := Lib.hid (by cases A <;> rfl)
  have HGN : Hid ((Value.slice A n c).ownBlock ≠ some g) := Lib.hid (own_ne h2 h1 tab_ne)
  have HTL : Hid ((l.take k).length = k) := Lib.hid (by rw [List.length_take]; omega)
  obtain ⟨-, s0, s1, s2, s3⟩ := HS.out w1 (Below.refl _ _)
  have hw1' : ∀ H : World, H = w1 → H = w1 := fun _ h => h
  clear h1 h2 h3 h4 h5 h6 h7 hin rt rs hT1 hin1 g1 E0 p2 HT hne
  have HN := Lib.hid hnn
  have HK := Lib.hid hk
  clear hnn hk
  generalize layEn l x = R at *
  go_enter Try.func31, Try.ntmps31
  go_wp2_with fail
  go_region_held_law (fun W => Below w1.heap.size w1 W ∧ W.cell? ⟨g, 1, none⟩ = some (.slice A n c) ∧ W.cell? ⟨B, 0, none⟩ = some (.int .u64 (x.h : Nat)) ∧ W.cell? ⟨B, 1, none⟩ = some (.int .i64 x.v) ∧ W.cell? ⟨B, 2, none⟩ = some (.int .i64 x.p))
    (first | (with_reducible assumption) | ((with_reducible refine HS.out _ ?_); (repeat' (first | (with_reducible assumption) | (with_reducible exact Below.refl _ _) | (with_reducible refine Below.drew ?_) | (with_reducible refine st_alloc ?_ _) | exact And.left (by with_reducible assumption))); done) | fail)
    (first
    | (refine step_append_fresh (A := A) (m := [x]) (base := w1.heap.size) (by rfl) _ _ (by rfl) (by rfl) (by rfl) (ent_one _ x) (by simp) (by simp) (HBb.out _ (by first | (with_reducible exact And.left (by with_reducible assumption)) | (refine st_alloc ?_ _; exact And.left (by with_reducible assumption)))) ?_; intro v1 V1 own1 gr1 at1; have far1 : ∀ z, v1.ownBlock = some z → w1.heap.size ≤ z := far_more (by first | (with_reducible exact And.left (by with_reducible assumption)) | (refine st_alloc ?_ _; exact And.left (by with_reducible assumption))) far_none at1; have b1 : Below w1.heap.size w1 V1 := st_grown (by first | (with_reducible exact And.left (by with_reducible assumption)) | (refine st_alloc ?_ _; exact And.left (by with_reducible assumption))) gr1 far_none)
    | (refine step_append_ents (l := [x]) (m := l.drop k) (by rfl) _ _ (by rfl) (by rfl) (by rfl) own1 (HP.out _ _ (Nat.le_refl _) b1) (by have := HD.out; simp only [List.length_cons, List.length_nil]; omega) (HBb.out _ b1) ?_; intro v2 V2 own2 gr2 at2; have far2 : ∀ z, v2.ownBlock = some z → w1.heap.size ≤ z := far_more b1 far1 at2; have b2 : Below w1.heap.size w1 V2 := st_grown b1 gr2 far1)
    | fail)
  all_goals
    clear gr1 at1 far1 b1 own1 gr2 at2 far2
    obtain ⟨gB, rT, hb0⟩ := HG.out V2 b2
    obtain ⟨A3, c3, V3, e1, e2, e3, e4⟩ := ents_append rT (EntRow.in_ own2) (by have := HD.out; have := HTL.out; simp only [List.length_append, List.length_cons, List.length_nil]; omega) hb0 27
    rw [HNE.out] at e3 e4
    have gB3 : Blok V3 g 46 #[mtp g, .slice A n c] := (e3.block g gB.lt (fun e => HGN.out e.symm)).trans gB
    have HFIN := Lib.hid (HEND.out V2 V3 _ b2 e3 e2 e4)
    have k1 := gB3.cell 1
    have f1 := gB3.frozen 1
    have k2 := gB.cell 1
    have HE := Lib.hid e1
    obtain ⟨A4, c4, rfl, -⟩ := EntRow.shape own2
    clear e1 e2 e3 e4 gB3 gB rT own2 b2
    generalize (l.take k).length + ([x] ++ l.drop k).length = N at *
    generalize ([x] ++ l.drop k).length = M at *
    go_wp2_with (first | (at_builtin; refine wpList_append_two rfl _ _ rfl rfl rfl HE.out ?_) | fail)
    go_end0
    exact HFIN.out
end Go.Proofs.Ytiaobmgafhcfnaa

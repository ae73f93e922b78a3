/- The chapter's examples of layer 9, over what the program's batches answer. -/
import Derived.Test.YtnefofcofccmfaaBatApi
namespace Go.Proofs.Ytnefofcofccmfaa
open Go.RowKit
set_option linter.unusedVariables false
attribute [local go_sem] run_store_float

theorem new_at (w : World) (o : Obj) : (w.alloc o).heap[w.heap.size]? = some o := by
  show (w.heap.push _)[w.heap.size]? = _
  simp
theorem batIn_ex {w : World} {f : Int} {v : Value} {l : List RawS} (hf : (Lit.int .i64 f).wf = true) (hl : l.length ≤ 300) (hx : ∀ x ∈ l, x = exE) (h : EvsIn w v l) : BatIn w exN f v l :=
  ⟨by decide, hf, h, hl, fun x hx' => by rw [hx x hx']; exact exE_sz⟩
/-- Events that are all the chapter's, laid one behind the other. -/
theorem exes_in (w : World) (n : Nat) (hn : 0 < n) (g : Nat) (hg : g < w.heap.size) (hc : ∀ i, i < n → w.cell? ⟨g, i * 3, none⟩ = some (.string ⟨#[97]⟩) ∧ w.cell? ⟨g, i * 3 + 1, none⟩ = some (.string ⟨#[98, 99]⟩) ∧ w.cell? ⟨g, i * 3 + 2, none⟩ = some (.float .f64 0)) :
    EvsIn w (.slice (some ⟨g, 0, none⟩) n n) (List.replicate n exE) := by
  refine Or.inr ⟨by simpa using hn, g, 0, n, by simp, by simp, hg, fun i x hx => ?_⟩
  rw [List.getElem?_replicate] at hx
  by_cases hi : i < n
  · rw [if_pos hi] at hx
    cases hx
    have h := hc i hi
    refine ⟨?_, ?_, ?_⟩
    · rw [Nat.zero_add]; exact h.1
    · rw [Nat.zero_add]; exact h.2.1
    · rw [Nat.zero_add]; exact h.2.2
  · rw [if_neg hi] at hx
    cases hx

set_option maxHeartbeats 4000000 in
set_option maxRecDepth 100000 in
theorem batched_true (api : BatApi) (w : World) : Calls Try.prog 9 #[] w fun e w' => e = .returned (.bool true) ∧ Below w.heap.size w w' := by
  have O0 := ((Blk3.new w 47 (.string ⟨#[97]⟩) (.string ⟨#[98, 99]⟩) (.float .f64 0)).alloc (.cells #[.string ⟨#[97]⟩, .string ⟨#[98, 99]⟩, .float .f64 0] 47)).alloc (.cells #[.string ⟨#[115]⟩, .int .i64 1, .slice (some ⟨w.heap.size + 1, 0, none⟩) 1 1] 28)
  have L0 := (Blk3.new (w.alloc (.cells #[.string ⟨#[97]⟩, .string ⟨#[98, 99]⟩, .float .f64 0] 47)) 47 (.string ⟨#[97]⟩) (.string ⟨#[98, 99]⟩) (.float .f64 0)).alloc (.cells #[.string ⟨#[115]⟩, .int .i64 1, .slice (some ⟨w.heap.size + 1, 0, none⟩) 1 1] 28)
  have B0 := Blk3.new ((w.alloc (.cells #[.string ⟨#[97]⟩, .string ⟨#[98, 99]⟩, .float .f64 0] 47)).alloc (.cells #[.string ⟨#[97]⟩, .string ⟨#[98, 99]⟩, .float .f64 0] 47)) 28 (.string ⟨#[115]⟩) (.int .i64 1) (.slice (some ⟨w.heap.size + 1, 0, none⟩) 1 1)
  have hbw : Below w.heap.size w (((w.alloc (.cells #[.string ⟨#[97]⟩, .string ⟨#[98, 99]⟩, .float .f64 0] 47)).alloc (.cells #[.string ⟨#[97]⟩, .string ⟨#[98, 99]⟩, .float .f64 0] 47)).alloc (.cells #[.string ⟨#[115]⟩, .int .i64 1, .slice (some ⟨w.heap.size + 1, 0, none⟩) 1 1] 28)) := (((Below.refl _ w).alloc (Nat.le_refl _) _).alloc (by simp) _).alloc (by simp; omega) _
  rw [World.size_alloc] at L0
  rw [World.size_alloc, World.size_alloc] at B0
  obtain ⟨W1, hW1⟩ : ∃ W1, (((w.alloc (.cells #[.string ⟨#[97]⟩, .string ⟨#[98, 99]⟩, .float .f64 0] 47)).alloc (.cells #[.string ⟨#[97]⟩, .string ⟨#[98, 99]⟩, .float .f64 0] 47)).alloc (.cells #[.string ⟨#[115]⟩, .int .i64 1, .slice (some ⟨w.heap.size + 1, 0, none⟩) 1 1] 28)) = W1 := ⟨_, rfl⟩
  rw [hW1] at O0 L0 B0 hbw
  have HE : ∀ W, Below W1.heap.size W1 W → EvsIn W (.slice (some ⟨w.heap.size + 1, 0, none⟩) 1 1) [exE] := fun W hW => by
    obtain ⟨c0, c1, c2, _, _, _, hl⟩ := (L0.below hW).facts
    exact exes_in W 1 (by omega) _ hl (fun i hi => by
      obtain rfl : i = 0 := by omega
      exact ⟨c0, c1, c2⟩)
  have P1 := api.put exN 1 _ [exE] W1 (batIn_ex (by decide) (by decide) (by simp) (HE W1 (Below.refl _ _)))
  rw [ex_s, ex_c1] at P1
  have G1 := fun W => api.get exS W (by decide)
  have G2 := fun W => api.get ByteArray.empty W (by decide)
  have G3 := fun W => api.get (exS ++ ⟨#[120]⟩) W (by decide)
  obtain ⟨x1, x2, x3, x4⟩ := ex_get
  obtain ⟨y1, y2, y3, y4⟩ := bg_no ex_none
  obtain ⟨z1, z2, z3, z4⟩ := bg_no ex_more
  unfold GotBat at G1 G2 G3
  rw [x1, x2, x3, x4] at G1
  rw [y1, y2, y3, y4] at G2
  rw [z1, z2, z3, z4] at G3
  clear x1 x2 x3 x4 y1 y2 y3 y4 z1 z2 z3 z4
  have HP := Lib.hid P1
  have HG1 := Lib.hid G1
  have HG2 := Lib.hid G2
  have HG3 := Lib.hid G3
  have HEE := Lib.hid HE
  have ha : ∀ w : World, (Op.stringOp .add exS ⟨#[120]⟩).run Try.prog w = .ok (.string (exS ++ ⟨#[120]⟩)) w := fun w => run_string_add_sum (P := Try.prog) (w := w) _ _ (by decide)
  have t1 : exS.toList = [0, 1, 115, 0, 0, 0, 0, 0, 0, 0, 1, 1, 0, 1, 97, 0, 2, 98, 99, 0, 0, 0, 0, 0, 0, 0, 0] := by rw [Lib.toList_data]; rfl
  generalize hX : exS ++ ⟨#[120]⟩ = X at *
  unfold batV at HP HG1 HG2 HG3
  have hN : exN = ⟨#[115]⟩ := rfl
  rw [hN] at HP HG1
  clear P1 G1 G2 G3 HE L0 hX hN
  obtain ⟨o0, o1, o2, _⟩ := O0.facts
  obtain ⟨b0, b1, b2, _⟩ := B0.facts
  go_enter Try.func9, Try.ntmps9
  go_wp2_with fail
  refine HP.out.mono ?_
  rintro e w2 ⟨rfl, hb2⟩
  have O2 := O0.below hb2
  have B2 := B0.below hb2
  clear O0 B0 hW1 HP o0 o1 o2 b0 b1 b2
  obtain ⟨o0, o1, o2, _⟩ := O2.facts
  obtain ⟨b0, b1, b2, _⟩ := B2.facts
  go_wp2_with fail
  refine (HG1.out _).mono ?_
  rintro e w3 ⟨u, rfl, hu, hb3⟩
  obtain ⟨A3, c3, rfl⟩ := hu.form
  have hbx := bj hb2 hb3
  have O3 := O2.below hb3
  have B3 := B2.below hb3
  clear O2 B2 hb2 hb3 HG1 o0 o1 o2 b0 b1 b2
  obtain ⟨o0, o1, o2, _⟩ := O3.facts
  obtain ⟨b0, b1, b2, _⟩ := B3.facts
  have C4 := Blk3.new w3 28 (.string ⟨#[115]⟩) (.int .i64 1) (.slice A3 1 c3)
  have O4 := O3.alloc (.cells #[.string ⟨#[115]⟩, .int .i64 1, .slice A3 1 c3] 28)
  have B4 := B3.alloc (.cells #[.string ⟨#[115]⟩, .int .i64 1, .slice A3 1 c3] 28)
  have hu4 := hu.below ((Below.refl _ w3).alloc (Nat.le_refl _) (.cells #[.string ⟨#[115]⟩, .int .i64 1, .slice A3 1 c3] 28)) (Nat.le_refl _)
  have hbx4 := hbx.alloc hbx.size (.cells #[.string ⟨#[115]⟩, .int .i64 1, .slice A3 1 c3] 28)
  clear O3 B3 hu hbx
  go_wp2_with fail
  refine (HG2.out _).mono ?_
  rintro e w5 ⟨u5, rfl, hu5, hb5⟩
  obtain ⟨A5, c5, rfl⟩ := evsIn_nil hu5
  have C5 := (C4.below hb5).alloc (.cells #[.string ⟨#[]⟩, .int .i64 0, .slice A5 0 c5] 28)
  have O5 := (O4.below hb5).alloc (.cells #[.string ⟨#[]⟩, .int .i64 0, .slice A5 0 c5] 28)
  have B5 := (B4.below hb5).alloc (.cells #[.string ⟨#[]⟩, .int .i64 0, .slice A5 0 c5] 28)
  have hbx5 := (bj hbx4 hb5).alloc (bj hbx4 hb5).size (.cells #[.string ⟨#[]⟩, .int .i64 0, .slice A5 0 c5] 28)
  have hu6 := (hu4.below hb5 (Nat.le_refl _)).below ((Below.refl _ w5).alloc (Nat.le_refl _) (.cells #[.string ⟨#[]⟩, .int .i64 0, .slice A5 0 c5] 28)) (Nat.le_refl _)
  clear C4 O4 B4 hu4 hu5 hb5 hbx4 HG2 o0 o1 o2 b0 b1 b2
  go_wp2_with fail
  refine (HG3.out _).mono ?_
  rintro e w7 ⟨u7, rfl, hu7, hb7⟩
  obtain ⟨A7, c7, rfl⟩ := evsIn_nil hu7
  have C7 := C5.below hb7
  have O7 := O5.below hb7
  have B7 := B5.below hb7
  have hbx7 := bj hbx5 hb7
  have hu8 := hu6.below hb7 (Nat.le_refl _)
  clear C5 O5 B5 hu6 hu7 hb7 hbx5 HG3
  obtain ⟨o0, o1, o2, _, _, _, ol⟩ := O7.facts
  obtain ⟨b0, b1, b2, _, _, _, bl⟩ := B7.facts
  obtain ⟨d0, d1, d2, _, _, _, dl⟩ := C7.facts
  have B8 := ((B7.alloc (.cells #[.string ByteArray.empty, .int .i64 0, .slice A7 0 c7] 28)).alloc (.cells #[.string ⟨#[97]⟩, .string ⟨#[98, 99]⟩, .float .f64 0, .string ⟨#[97]⟩, .string ⟨#[98, 99]⟩, .float .f64 0, .string ⟨#[97]⟩, .string ⟨#[98, 99]⟩, .float .f64 0, .string ⟨#[97]⟩, .string ⟨#[98, 99]⟩, .float .f64 0, .string ⟨#[97]⟩, .string ⟨#[98, 99]⟩, .float .f64 0, .string ⟨#[97]⟩, .string ⟨#[98, 99]⟩, .float .f64 0, .string ⟨#[97]⟩, .string ⟨#[98, 99]⟩, .float .f64 0, .string ⟨#[97]⟩, .string ⟨#[98, 99]⟩, .float .f64 0, .string ⟨#[97]⟩, .string ⟨#[98, 99]⟩, .float .f64 0] 47)).alloc (.cells #[.string ⟨#[115]⟩, .int .i64 0, .slice (some ⟨w7.heap.size + 1, 0, none⟩) 9 9] 28)
  have C8 := ((C7.alloc (.cells #[.string ByteArray.empty, .int .i64 0, .slice A7 0 c7] 28)).alloc (.cells #[.string ⟨#[97]⟩, .string ⟨#[98, 99]⟩, .float .f64 0, .string ⟨#[97]⟩, .string ⟨#[98, 99]⟩, .float .f64 0, .string ⟨#[97]⟩, .string ⟨#[98, 99]⟩, .float .f64 0, .string ⟨#[97]⟩, .string ⟨#[98, 99]⟩, .float .f64 0, .string ⟨#[97]⟩, .string ⟨#[98, 99]⟩, .float .f64 0, .string ⟨#[97]⟩, .string ⟨#[98, 99]⟩, .float .f64 0, .string ⟨#[97]⟩, .string ⟨#[98, 99]⟩, .float .f64 0, .string ⟨#[97]⟩, .string ⟨#[98, 99]⟩, .float .f64 0, .string ⟨#[97]⟩, .string ⟨#[98, 99]⟩, .float .f64 0] 47)).alloc (.cells #[.string ⟨#[115]⟩, .int .i64 0, .slice (some ⟨w7.heap.size + 1, 0, none⟩) 9 9] 28)
  have N8 := Blk3.new ((w7.alloc (.cells #[.string ByteArray.empty, .int .i64 0, .slice A7 0 c7] 28)).alloc (.cells #[.string ⟨#[97]⟩, .string ⟨#[98, 99]⟩, .float .f64 0, .string ⟨#[97]⟩, .string ⟨#[98, 99]⟩, .float .f64 0, .string ⟨#[97]⟩, .string ⟨#[98, 99]⟩, .float .f64 0, .string ⟨#[97]⟩, .string ⟨#[98, 99]⟩, .float .f64 0, .string ⟨#[97]⟩, .string ⟨#[98, 99]⟩, .float .f64 0, .string ⟨#[97]⟩, .string ⟨#[98, 99]⟩, .float .f64 0, .string ⟨#[97]⟩, .string ⟨#[98, 99]⟩, .float .f64 0, .string ⟨#[97]⟩, .string ⟨#[98, 99]⟩, .float .f64 0, .string ⟨#[97]⟩, .string ⟨#[98, 99]⟩, .float .f64 0] 47)) 28 (.string ⟨#[115]⟩) (.int .i64 0) (.slice (some ⟨w7.heap.size + 1, 0, none⟩) 9 9)
  have hb8 : Below w7.heap.size w7 (((w7.alloc (.cells #[.string ByteArray.empty, .int .i64 0, .slice A7 0 c7] 28)).alloc (.cells #[.string ⟨#[97]⟩, .string ⟨#[98, 99]⟩, .float .f64 0, .string ⟨#[97]⟩, .string ⟨#[98, 99]⟩, .float .f64 0, .string ⟨#[97]⟩, .string ⟨#[98, 99]⟩, .float .f64 0, .string ⟨#[97]⟩, .string ⟨#[98, 99]⟩, .float .f64 0, .string ⟨#[97]⟩, .string ⟨#[98, 99]⟩, .float .f64 0, .string ⟨#[97]⟩, .string ⟨#[98, 99]⟩, .float .f64 0, .string ⟨#[97]⟩, .string ⟨#[98, 99]⟩, .float .f64 0, .string ⟨#[97]⟩, .string ⟨#[98, 99]⟩, .float .f64 0, .string ⟨#[97]⟩, .string ⟨#[98, 99]⟩, .float .f64 0] 47)).alloc (.cells #[.string ⟨#[115]⟩, .int .i64 0, .slice (some ⟨w7.heap.size + 1, 0, none⟩) 9 9] 28)) := (((Below.refl _ w7).alloc (Nat.le_refl _) _).alloc (by simp) _).alloc (by simp; omega) _
  have hbx8 := bj hbx7 hb8
  have hu9 := hu8.below hb8 (Nat.le_refl _)
  have hg8 : (((w7.alloc (.cells #[.string ByteArray.empty, .int .i64 0, .slice A7 0 c7] 28)).alloc (.cells #[.string ⟨#[97]⟩, .string ⟨#[98, 99]⟩, .float .f64 0, .string ⟨#[97]⟩, .string ⟨#[98, 99]⟩, .float .f64 0, .string ⟨#[97]⟩, .string ⟨#[98, 99]⟩, .float .f64 0, .string ⟨#[97]⟩, .string ⟨#[98, 99]⟩, .float .f64 0, .string ⟨#[97]⟩, .string ⟨#[98, 99]⟩, .float .f64 0, .string ⟨#[97]⟩, .string ⟨#[98, 99]⟩, .float .f64 0, .string ⟨#[97]⟩, .string ⟨#[98, 99]⟩, .float .f64 0, .string ⟨#[97]⟩, .string ⟨#[98, 99]⟩, .float .f64 0, .string ⟨#[97]⟩, .string ⟨#[98, 99]⟩, .float .f64 0] 47)).alloc (.cells #[.string ⟨#[115]⟩, .int .i64 0, .slice (some ⟨w7.heap.size + 1, 0, none⟩) 9 9] 28)).heap[w7.heap.size + 1]? = some (.cells #[.string ⟨#[97]⟩, .string ⟨#[98, 99]⟩, .float .f64 0, .string ⟨#[97]⟩, .string ⟨#[98, 99]⟩, .float .f64 0, .string ⟨#[97]⟩, .string ⟨#[98, 99]⟩, .float .f64 0, .string ⟨#[97]⟩, .string ⟨#[98, 99]⟩, .float .f64 0, .string ⟨#[97]⟩, .string ⟨#[98, 99]⟩, .float .f64 0, .string ⟨#[97]⟩, .string ⟨#[98, 99]⟩, .float .f64 0, .string ⟨#[97]⟩, .string ⟨#[98, 99]⟩, .float .f64 0, .string ⟨#[97]⟩, .string ⟨#[98, 99]⟩, .float .f64 0, .string ⟨#[97]⟩, .string ⟨#[98, 99]⟩, .float .f64 0] 47) := by
    rw [Below.heap_alloc _ _ _ (by simp)]
    have h := new_at (w7.alloc (.cells #[.string ByteArray.empty, .int .i64 0, .slice A7 0 c7] 28)) (.cells #[.string ⟨#[97]⟩, .string ⟨#[98, 99]⟩, .float .f64 0, .string ⟨#[97]⟩, .string ⟨#[98, 99]⟩, .float .f64 0, .string ⟨#[97]⟩, .string ⟨#[98, 99]⟩, .float .f64 0, .string ⟨#[97]⟩, .string ⟨#[98, 99]⟩, .float .f64 0, .string ⟨#[97]⟩, .string ⟨#[98, 99]⟩, .float .f64 0, .string ⟨#[97]⟩, .string ⟨#[98, 99]⟩, .float .f64 0, .string ⟨#[97]⟩, .string ⟨#[98, 99]⟩, .float .f64 0, .string ⟨#[97]⟩, .string ⟨#[98, 99]⟩, .float .f64 0, .string ⟨#[97]⟩, .string ⟨#[98, 99]⟩, .float .f64 0] 47)
    rw [World.size_alloc] at h
    exact h
  rw [World.size_alloc, World.size_alloc] at N8
  obtain ⟨W8, hW8⟩ : ∃ W8, (((w7.alloc (.cells #[.string ByteArray.empty, .int .i64 0, .slice A7 0 c7] 28)).alloc (.cells #[.string ⟨#[97]⟩, .string ⟨#[98, 99]⟩, .float .f64 0, .string ⟨#[97]⟩, .string ⟨#[98, 99]⟩, .float .f64 0, .string ⟨#[97]⟩, .string ⟨#[98, 99]⟩, .float .f64 0, .string ⟨#[97]⟩, .string ⟨#[98, 99]⟩, .float .f64 0, .string ⟨#[97]⟩, .string ⟨#[98, 99]⟩, .float .f64 0, .string ⟨#[97]⟩, .string ⟨#[98, 99]⟩, .float .f64 0, .string ⟨#[97]⟩, .string ⟨#[98, 99]⟩, .float .f64 0, .string ⟨#[97]⟩, .string ⟨#[98, 99]⟩, .float .f64 0, .string ⟨#[97]⟩, .string ⟨#[98, 99]⟩, .float .f64 0] 47)).alloc (.cells #[.string ⟨#[115]⟩, .int .i64 0, .slice (some ⟨w7.heap.size + 1, 0, none⟩) 9 9] 28)) = W8 := ⟨_, rfl⟩
  rw [hW8] at B8 C8 N8 hbx8 hu9 hg8
  have HN : ∀ W, Below W8.heap.size W8 W → EvsIn W (.slice (some ⟨w7.heap.size + 1, 0, none⟩) 9 9) (List.replicate 9 exE) := fun W hW => by
    have hlt := (Array.getElem?_eq_some_iff.1 hg8).1
    have hg9 := (hW.block _ hlt).trans hg8
    refine exes_in W 9 (by omega) _ (Nat.lt_of_lt_of_le hlt hW.size) (fun i hi => ?_)
    match i, hi with
    | 0, _ => simp [World.cell?, hg9]
    | 1, _ => simp [World.cell?, hg9]
    | 2, _ => simp [World.cell?, hg9]
    | 3, _ => simp [World.cell?, hg9]
    | 4, _ => simp [World.cell?, hg9]
    | 5, _ => simp [World.cell?, hg9]
    | 6, _ => simp [World.cell?, hg9]
    | 7, _ => simp [World.cell?, hg9]
    | 8, _ => simp [World.cell?, hg9]
  have HC1 := Lib.hid (api.same exN 1 (.slice (some ⟨w.heap.size + 1, 0, none⟩) 1 1) [exE] exN 1 (.slice A3 1 c3) [exE] W8 (batIn_ex (by decide) (by decide) (by simp) (HEE.out W8 hbx8)) (batIn_ex (by decide) (by decide) (by simp) hu9))
  rw [bEq_self] at HC1
  have HC2 := Lib.hid fun W => api.check exN 0 (.slice none 0 0) [] W (batIn_ex (by decide) (by decide) (by simp) (Or.inl ⟨rfl, _, _, rfl⟩))
  have HC3 := Lib.hid fun W h => api.check exN 0 (.slice (some ⟨w7.heap.size + 1, 0, none⟩) 9 9) (List.replicate 9 exE) W (batIn_ex (by decide) (by decide) (fun x hx => List.eq_of_mem_replicate hx) (HN W h))
  have HC4 := Lib.hid fun W h => api.check exN (-1) (.slice (some ⟨w.heap.size + 1, 0, none⟩) 1 1) [exE] W (batIn_ex (by decide) (by decide) (by simp) (HEE.out W h))
  have HC5 := Lib.hid fun W h => api.check exN 1073741824 (.slice (some ⟨w.heap.size + 1, 0, none⟩) 1 1) [exE] W (batIn_ex (by decide) (by decide) (by simp) (HEE.out W h))
  rw [ex_c2] at HC2
  rw [show bchk exN 0 (List.replicate 9 exE) = 3 from ex_c3] at HC3
  rw [ex_c4] at HC4
  rw [ex_c5] at HC5
  unfold batV at HC1 HC2 HC3 HC4 HC5
  have hN : exN = ⟨#[115]⟩ := rfl
  rw [hN] at HC1 HC2 HC3 HC4 HC5
  clear hN HN hg8 hu9 hu8 hb8 hbx7 B7 C7 O7 HEE api
  obtain ⟨e0, e1, e2, _, _, _, el⟩ := B8.facts
  obtain ⟨f0, f1, f2, _, _, _, fl⟩ := C8.facts
  obtain ⟨n0, n1, n2, _, _, _, nl⟩ := N8.facts
  go_wp2_with fail
  refine HC1.out.mono ?_
  rintro e w9 ⟨rfl, hb9⟩
  clear HC1 hW8 e0 e1 e2 f0 f1 f2 n0 n1 n2 o0 o1 o2 b0 b1 b2 d0 d1 d2
  have hc9 := bj hbx8 hb9
  obtain ⟨e0, e1, e2, _⟩ := (B8.below hb9).facts
  obtain ⟨n0, n1, n2, _⟩ := (N8.below hb9).facts
  go_wp2_with fail
  refine (HC2.out _).mono ?_
  rintro e w10 ⟨rfl, hb10⟩
  have hb10' := bj hb9 hb10
  clear e0 e1 e2 n0 n1 n2
  obtain ⟨e0, e1, e2, _⟩ := (B8.below hb10').facts
  obtain ⟨n0, n1, n2, _⟩ := (N8.below hb10').facts
  go_wp2_with fail
  refine (HC3.out _ hb10').mono ?_
  rintro e w11 ⟨rfl, hb11⟩
  have hb11' := bj hb10' hb11
  clear e0 e1 e2 n0 n1 n2
  obtain ⟨e0, e1, e2, _⟩ := (B8.below hb11').facts
  go_wp2_with fail
  refine (HC4.out _ (bj hbx8 hb11')).mono ?_
  rintro e w12 ⟨rfl, hb12⟩
  have hb12' := bj hb11' hb12
  clear e0 e1 e2
  obtain ⟨e0, e1, e2, _⟩ := (B8.below hb12').facts
  go_wp2_with fail
  refine (HC5.out _ (bj hbx8 hb12')).mono ?_
  rintro e w13 ⟨rfl, hb13⟩
  go_wp2
  go_ret
  exact ⟨rfl, bj hbw (bj hbx8 (bj hb12' hb13))⟩
end Go.Proofs.Ytnefofcofccmfaa

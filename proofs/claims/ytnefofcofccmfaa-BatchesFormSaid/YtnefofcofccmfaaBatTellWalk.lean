/- BatchesTell over what the program's batches answer. -/
import Derived.Test.YtnefofcofccmfaaBatBackWalk
import Derived.Deep.CutBlock
namespace Go.Proofs.Ytnefofcofccmfaa
open Go.RowKit
set_option linter.unusedVariables false
attribute [local go_sem] run_store_float

/-- A batch in memory. -/
def BatC (w : World) (g : Nat) (s : ByteArray) (f : Int) (v : Value) : Prop :=
  w.cell? ⟨g, 0, none⟩ = some (.string s) ∧ w.cell? ⟨g, 1, none⟩ = some (.int .i64 f) ∧ w.cell? ⟨g, 2, none⟩ = some v ∧ g < w.heap.size
theorem BatC.below {w w' : World} {g : Nat} {s : ByteArray} {f : Int} {v : Value} (h : BatC w g s f v) (hb : Below w.heap.size w w') : BatC w' g s f v :=
  ⟨keep_cell hb h.2.2.2 h.1, keep_cell hb h.2.2.2 h.2.1, keep_cell hb h.2.2.2 h.2.2.1, Nat.lt_of_lt_of_le h.2.2.2 hb.size⟩
theorem EvsIn.alloc {w : World} {u : Value} {l : List RawS} (h : EvsIn w u l) (o : Obj) : EvsIn (w.alloc o) u l := h.below ((Below.refl _ w).alloc (Nat.le_refl _) o) (Nat.le_refl _)

theorem EvsIn.set3b {w : World} {g : Nat} {u : Value} {l : List RawS} {x' y' z' : Value} (h : EvsIn w u l) (hb : Blk3 w g 28 (.string ⟨#[]⟩) (.int .i64 0) (.slice none 0 0)) :
    EvsIn (((w.setCell ⟨g, 0, none⟩ x').setCell ⟨g, 1, none⟩ y').setCell ⟨g, 2, none⟩ z') u l := h.set3 hb x' y' z'
theorem Blk3.other3 {w : World} {g g' : Nat} {T : TypeId} {x y z x' y' z' : Value} (h : Blk3 w g T x y z) (hne : g ≠ g') : Blk3 (((w.setCell ⟨g', 0, none⟩ x').setCell ⟨g', 1, none⟩ y').setCell ⟨g', 2, none⟩ z') g T x y z := ((h.other hne).other hne).other hne

theorem btell_great (api : BatApi) (s : ByteArray) (f : Int) (v : Value) (l : List RawS) (s' : ByteArray) (f' : Int) (v' : Value) (l' : List RawS) (w : World) (hs : s.size ≤ maxLen) (h : RawsIn w v l) (hok : ∀ x ∈ l, RawOk x) (hs' : s'.size ≤ maxLen) (h' : RawsIn w v' l') (hok' : ∀ x ∈ l', RawOk x) (hg : bgrt s l = true ∨ bgrt s' l' = true) :
    Calls Try.prog 3 #[batV s f v, batV s' f' v'] w fun e w' => e = .returned (.bool true) ∧ Below w.heap.size w w' := by
  have HR' := Lib.hid fun W (hW : Below w.heap.size w W) => h'.below hW (Nat.le_refl _)
  have HR := Lib.hid fun W (hW : Below w.heap.size w W) => h.below hW (Nat.le_refl _)
  obtain ⟨A, c, rfl⟩ := h.form
  obtain ⟨A', c', rfl⟩ := h'.form
  have R2 := Blk3.new (w.alloc (.cells #[.string s, .int .i64 f, .slice A l.length c] 24)) 24 (.string s') (.int .i64 f') (.slice A' l'.length c')
  have hbw := ((Below.refl w.heap.size w).alloc (Nat.le_refl _) (.cells #[.string s, .int .i64 f, .slice A l.length c] 24)).alloc (by simp) (.cells #[.string s', .int .i64 f', .slice A' l'.length c'] 24)
  rw [World.size_alloc] at R2
  have HG1 := Lib.hid (bgreat_any s f _ l _ hs (HR.out _ hbw) hok)
  have HG2 := Lib.hid fun W hW => bgreat_any s' f' _ l' W hs' (HR'.out W hW) hok'
  unfold batV at HG1 HG2 ⊢
  clear h h' hok hok' hs hs' HR HR'
  cases hgg : bgrt s l with
  | true =>
    rw [hgg] at HG1
    clear hgg hg
    go_enter Try.func3, Try.ntmps3
    go_wp2_with fail
    refine HG1.out.mono ?_
    rintro e w1 ⟨rfl, hb1⟩
    go_wp2_with fail
    refine (batched_true api _).mono ?_
    rintro e w2 ⟨rfl, hb2⟩
    go_wp2
    go_ret
    exact ⟨rfl, bj (hbw.trans (hb1.mono (by simp; omega))) hb2⟩
  | false =>
    rw [hgg] at HG1 hg
    have h2 : bgrt s' l' = true := by
      rcases hg with h | h
      · cases h
      · exact h
    rw [h2] at HG2
    clear hgg hg h2
    go_enter Try.func3, Try.ntmps3
    go_wp2_with fail
    refine HG1.out.mono ?_
    rintro e w1 ⟨rfl, hb1⟩
    obtain ⟨k0, k1, k2, _, _, _, kl⟩ := (R2.below hb1).facts
    have hb2 := hbw.trans (hb1.mono (by simp; omega))
    have HGG := Lib.hid (HG2.out _ hb2)
    clear R2 hb1 HG1 HG2
    go_wp2_with fail
    refine HGG.out.mono ?_
    rintro e w2 ⟨rfl, hb3⟩
    go_wp2_with fail
    refine (batched_true api _).mono ?_
    rintro e w3 ⟨rfl, hb4⟩
    go_wp2
    go_ret
    exact ⟨rfl, bj hb2 (bj hb3 hb4)⟩

set_option maxHeartbeats 8000000 in
set_option maxRecDepth 100000 in
theorem btell_small (api : BatApi) (s : ByteArray) (f : Int) (v : Value) (l : List RawS) (s' : ByteArray) (f' : Int) (v' : Value) (l' : List RawS) (w : World) (hs : s.size ≤ maxLen) (h : RawsIn w v l) (hok : ∀ x ∈ l, RawOk x) (hs' : s'.size ≤ maxLen) (h' : RawsIn w v' l') (hok' : ∀ x ∈ l', RawOk x) (hf : (Lit.int .i64 f).wf = true) (hf' : (Lit.int .i64 f').wf = true) (hg : bgrt s l = false) (hg' : bgrt s' l' = false) :
    Calls Try.prog 3 #[batV s f v, batV s' f' v'] w fun e w' => e = .returned (.bool true) ∧ Below w.heap.size w w' := by
  obtain ⟨z1, z2, z3⟩ := raw_ev hg hok
  obtain ⟨y1, y2, y3⟩ := raw_ev hg' hok'
  have HR' := Lib.hid fun W (hW : Below w.heap.size w W) => h'.below hW (Nat.le_refl _)
  have HR := Lib.hid fun W (hW : Below w.heap.size w W) => h.below hW (Nat.le_refl _)
  obtain ⟨A, c, rfl⟩ := h.form
  obtain ⟨A', c', rfl⟩ := h'.form
  have R1 := (Blk3.new w 24 (.string s) (.int .i64 f) (.slice A l.length c)).alloc (.cells #[.string s', .int .i64 f', .slice A' l'.length c'] 24)
  have R2 := Blk3.new (w.alloc (.cells #[.string s, .int .i64 f, .slice A l.length c] 24)) 24 (.string s') (.int .i64 f') (.slice A' l'.length c')
  have hbw := ((Below.refl w.heap.size w).alloc (Nat.le_refl _) (.cells #[.string s, .int .i64 f, .slice A l.length c] 24)).alloc (by simp) (.cells #[.string s', .int .i64 f', .slice A' l'.length c'] 24)
  rw [World.size_alloc] at R2
  have HG1 := Lib.hid (bgreat_any s f _ l _ hs (HR.out _ hbw) hok)
  have HG2 := Lib.hid fun W hW => bgreat_any s' f' _ l' W hs' (HR'.out W hW) hok'
  rw [hg] at HG1
  rw [hg'] at HG2
  have HB1 := Lib.hid fun W hW => batch_any s f (.slice A l.length c) l W (HR.out W hW) (by omega)
  have HB2 := Lib.hid fun W hW => batch_any s' f' (.slice A' l'.length c') l' W (HR'.out W hW) (by omega)
  have HI1 := Lib.hid fun W u hu => bat_of (w := W) (s := s) (f := f) (u := u) (l := l) z1 z2 z3 hf hu
  have HI2 := Lib.hid fun W u hu => bat_of (w := W) (s := s') (f := f') (u := u) (l := l') y1 y2 y3 hf' hu
  clear h h' hok hok' hs hs' HR HR' hg hg' z1 z2 z3 y1 y2 y3 hf hf'
  unfold batV at HG1 HG2 HB1 HB2 ⊢
  go_enter Try.func3, Try.ntmps3
  go_wp2_with fail
  refine HG1.out.mono ?_
  rintro e w1 ⟨rfl, hb1⟩
  have R11 := R1.below hb1
  have R21 := R2.below hb1
  obtain ⟨k0, k1, k2, _, _, _, kl⟩ := R21.facts
  have hb2 := hbw.trans (hb1.mono (by simp; omega))
  have HGG := Lib.hid (HG2.out _ hb2)
  clear R1 R2 hbw hb1 HG1 HG2
  go_wp2_with fail
  refine HGG.out.mono ?_
  rintro e w2 ⟨rfl, hb3⟩
  have R12 := R11.below hb3
  have R22 := R21.below hb3
  have hbw2 := bj hb2 hb3
  clear R11 R21 k0 k1 k2 hb2 hb3 HGG
  go_upto_region 3 with fail
  go_cut [5, 6] (fun u v wx => ∃ (g5 g6 : Nat) (P5 P6 : Option Addr) (d5 d6 : Nat), u = .pointer (some ⟨g5, 0, none⟩) ∧ v = .pointer (some ⟨g6, 0, none⟩) ∧ BatC wx g5 s f (.slice P5 l.length d5) ∧ BatC wx g6 s' f' (.slice P6 l'.length d6) ∧ EvsIn wx (.slice P5 l.length d5) l ∧ EvsIn wx (.slice P6 l'.length d6) l' ∧ Below w2.heap.size w2 wx)
  case first =>
    obtain ⟨k0, k1, k2, _, _, _, l1⟩ := R12.facts
    obtain ⟨j0, j1, j2, _, _, _, l2⟩ := R22.facts
    have HS : Hid (∀ W, Below w2.heap.size w2 W → Below w2.heap.size w2 W ∧ W.cell? ⟨w.heap.size, 0, none⟩ = some (.string s) ∧ W.cell? ⟨w.heap.size, 1, none⟩ = some (.int .i64 f) ∧ W.cell? ⟨w.heap.size, 2, none⟩ = some (.slice A l.length c) ∧ W.cell? ⟨w.heap.size + 1, 0, none⟩ = some (.string s') ∧ W.cell? ⟨w.heap.size + 1, 1, none⟩ = some (.int .i64 f') ∧ W.cell? ⟨w.heap.size + 1, 2, none⟩ = some (.slice A' l'.length c')) :=
      Lib.hid fun W hW => ⟨hW, keep_cell hW l1 k0, keep_cell hW l1 k1, keep_cell hW l1 k2, keep_cell hW l2 j0, keep_cell hW l2 j1, keep_cell hW l2 j2⟩
    have H1 := Lib.hid fun W (h : Below w2.heap.size w2 W ∧ W.cell? ⟨w.heap.size, 0, none⟩ = some (.string s) ∧ W.cell? ⟨w.heap.size, 1, none⟩ = some (.int .i64 f) ∧ W.cell? ⟨w.heap.size, 2, none⟩ = some (.slice A l.length c) ∧ W.cell? ⟨w.heap.size + 1, 0, none⟩ = some (.string s') ∧ W.cell? ⟨w.heap.size + 1, 1, none⟩ = some (.int .i64 f') ∧ W.cell? ⟨w.heap.size + 1, 2, none⟩ = some (.slice A' l'.length c')) => HB1.out W (hbw2.trans (h.1.mono hbw2.size))
    have H2 := Lib.hid fun W (h : Below w2.heap.size w2 W ∧ W.cell? ⟨w.heap.size, 0, none⟩ = some (.string s) ∧ W.cell? ⟨w.heap.size, 1, none⟩ = some (.int .i64 f) ∧ W.cell? ⟨w.heap.size, 2, none⟩ = some (.slice A l.length c) ∧ W.cell? ⟨w.heap.size + 1, 0, none⟩ = some (.string s') ∧ W.cell? ⟨w.heap.size + 1, 1, none⟩ = some (.int .i64 f') ∧ W.cell? ⟨w.heap.size + 1, 2, none⟩ = some (.slice A' l'.length c')) => HB2.out W (hbw2.trans (h.1.mono hbw2.size))
    clear R12 R22 HB1 HB2 HI1 HI2 hbw2
    go_region_held3 (fun W => Below w2.heap.size w2 W ∧ W.cell? ⟨w.heap.size, 0, none⟩ = some (.string s) ∧ W.cell? ⟨w.heap.size, 1, none⟩ = some (.int .i64 f) ∧ W.cell? ⟨w.heap.size, 2, none⟩ = some (.slice A l.length c) ∧ W.cell? ⟨w.heap.size + 1, 0, none⟩ = some (.string s') ∧ W.cell? ⟨w.heap.size + 1, 1, none⟩ = some (.int .i64 f') ∧ W.cell? ⟨w.heap.size + 1, 2, none⟩ = some (.slice A' l'.length c'))
      (first | (with_reducible assumption) | ((with_reducible refine HS.out _ ?_); (repeat' (first | (with_reducible assumption) | (with_reducible exact Below.refl _ _) | (with_reducible refine own_alloc ?_) | (with_reducible refine own_set ?_ ?_) | (with_reducible refine Below.drew ?_) | omega)); done) | fail)
      (first
      | (go_at_call 10; ((with_reducible refine (H1.out _ (by with_reducible assumption)).mono ?_); rintro e w3 ⟨u5, rfl, hu5, hb3⟩; obtain ⟨P5, d5, rfl⟩ := hu5.form; have hz3 := hb3.size; (with_reducible (try (have A1 := (Blk3.new _ _ _ _ _).drew.below hb3; (try simp only [World.size_alloc] at A1); (try simp only [World.size_drew] at A1); obtain ⟨A1c0, A1c1, A1c2, A1f0, A1f1, A1f2, A1lt⟩ := A1.facts)); (try (have A2 := ((Blk3.new _ _ _ _ _).alloc _).drew.below hb3; (try simp only [World.size_alloc] at A2); (try simp only [World.size_drew] at A2); obtain ⟨A2c0, A2c1, A2c2, A2f0, A2f1, A2f2, A2lt⟩ := A2.facts))); have hB3 := hold_call (W0 := w2) hb3 (by with_reducible assumption); have hy3 := hB3.size))
      | (go_at_call 10; ((with_reducible refine (H2.out _ (by with_reducible assumption)).mono ?_); rintro e w4 ⟨u6, rfl, hu6, hb4⟩; obtain ⟨P6, d6, rfl⟩ := hu6.form; have hz4 := hb4.size; (with_reducible (first | (have hv5 := hu5.below hb4 (Nat.le_refl _)) | (have hv5 := (hu5.alloc _).below hb4 (Nat.le_refl _)) | (have hv5 := ((hu5.alloc _).alloc _).below hb4 (Nat.le_refl _)))); (with_reducible (try (have A3 := A1.below hb4; (try simp only [World.size_alloc] at A3); (try simp only [World.size_drew] at A3); obtain ⟨A3c0, A3c1, A3c2, A3f0, A3f1, A3f2, A3lt⟩ := A3.facts)); (try (have A4 := A2.below hb4; (try simp only [World.size_alloc] at A4); (try simp only [World.size_drew] at A4); obtain ⟨A4c0, A4c1, A4c2, A4f0, A4f1, A4f2, A4lt⟩ := A4.facts)); (try (have A5 := (A1.alloc _).below hb4; (try simp only [World.size_alloc] at A5); (try simp only [World.size_drew] at A5); obtain ⟨A5c0, A5c1, A5c2, A5f0, A5f1, A5f2, A5lt⟩ := A5.facts)); (try (have A6 := (Blk3.new _ _ _ _ _).below hb4; (try simp only [World.size_alloc] at A6); (try simp only [World.size_drew] at A6); obtain ⟨A6c0, A6c1, A6c2, A6f0, A6f1, A6f2, A6lt⟩ := A6.facts)); (try (have A7 := ((Blk3.new _ _ _ _ _).alloc _).below hb4; (try simp only [World.size_alloc] at A7); (try simp only [World.size_drew] at A7); obtain ⟨A7c0, A7c1, A7c2, A7f0, A7f1, A7f2, A7lt⟩ := A7.facts))); have hB4 := hold_call (W0 := w2) hb4 (by with_reducible assumption); have hy4 := hB4.size))
      | fail)
    all_goals
      go_step
      go_step
      go_meet
      refine ⟨_, _, P5, P6, d5, d6, rfl, rfl, ?_, ?_, ?_, ?_, held_on (Below.refl _ w2) (by with_reducible assumption)⟩
      · unfold BatC
        refine ⟨?_, ?_, ?_, ?_⟩
        · go_simp
        · go_simp
        · go_simp
        · first | (simp; done) | (simp; omega) | omega
      · unfold BatC
        refine ⟨?_, ?_, ?_, ?_⟩
        · go_simp
        · go_simp
        · go_simp
        · first | (simp; done) | (simp; omega) | omega
      · repeat' (first | (with_reducible assumption) | (with_reducible refine EvsIn.alloc ?_ _) | (with_reducible refine EvsIn.set3b ?_ ?_) | (with_reducible refine Blk3.other3 ?_ ?_) | omega)
      · repeat' (first | (with_reducible assumption) | (with_reducible refine EvsIn.alloc ?_ _) | (with_reducible refine EvsIn.set3b ?_ ?_) | (with_reducible refine Blk3.other3 ?_ ?_) | omega)
  case rest =>
    obtain ⟨g5, g6, P5, P6, d5, d6, rfl, rfl, c5, c6, hu5, hu6, hbc⟩ := hcut
    have R13 := R12.below hbc
    have hbw3 := bj hbw2 hbc
    have HP := Lib.hid (api.put s f _ l wc (HI1.out _ _ hu5))
    unfold batV at HP
    obtain ⟨k0, k1, k2, kl⟩ := c5
    have C5 : BatC wc g5 s f (.slice P5 l.length d5) := ⟨k0, k1, k2, kl⟩
    clear R12 R22 hbw2 hbc
    go_wp2_with fail
    refine HP.out.mono ?_
    rintro e w5 ⟨rfl, hb5⟩
    have C6 := C5.below hb5
    have D6 := c6.below hb5
    have v5 := hu5.below hb5 (Nat.le_refl _)
    have v6 := hu6.below hb5 (Nat.le_refl _)
    have R14 := R13.below hb5
    have hbw5 := bj hbw3 hb5
    obtain ⟨j0, j1, j2, _, _, _, jl⟩ := R14.facts
    have HBB := Lib.hid (HB1.out _ hbw5)
    clear C5 c6 hu5 hu6 R13 hbw3 hb5 HP k0 k1 k2 kl HB2
    go_wp2_with fail
    refine HBB.out.mono ?_
    rintro e w6 ⟨u6, rfl, hw6, hb6⟩
    obtain ⟨Q6, q6, rfl⟩ := hw6.form
    have C7 := C6.below hb6
    have D7 := D6.below hb6
    have v7 := v5.below hb6 (Nat.le_refl _)
    have x7 := v6.below hb6 (Nat.le_refl _)
    have R15 := R14.below hb6
    have hbw6 := bj hbw5 hb6
    have HPR := Lib.hid (bput_ref s f _ l w6 (HI1.out _ _ hw6))
    unfold batV at HPR
    clear C6 D6 v5 v6 R14 hbw5 hb6 HBB hw6 j0 j1 j2
    go_wp2_with fail
    refine HPR.out.mono ?_
    rintro e wd ⟨rfl, hb7⟩
    obtain ⟨k0, k1, k2, kl⟩ := C7.below hb7
    obtain ⟨m0, m1, m2, ml⟩ := D7.below hb7
    have v8 := Lib.hid (v7.below hb7 (Nat.le_refl _))
    have x8 := Lib.hid (x7.below hb7 (Nat.le_refl _))
    obtain ⟨j0, j1, j2, _, _, _, jl2⟩ := (R15.below hb7).facts
    have hbd := bj hbw6 hb7
    clear C7 D7 v7 x7 R15 hbw6 hb7 HPR
    have HS : Hid (∀ W, Below wd.heap.size wd W → Below wd.heap.size wd W ∧ W.cell? ⟨w.heap.size, 0, none⟩ = some (.string s) ∧ W.cell? ⟨w.heap.size, 1, none⟩ = some (.int .i64 f) ∧ W.cell? ⟨w.heap.size, 2, none⟩ = some (.slice A l.length c) ∧ W.cell? ⟨g5, 0, none⟩ = some (.string s) ∧ W.cell? ⟨g5, 1, none⟩ = some (.int .i64 f) ∧ W.cell? ⟨g5, 2, none⟩ = some (.slice P5 l.length d5) ∧ W.cell? ⟨g6, 0, none⟩ = some (.string s') ∧ W.cell? ⟨g6, 1, none⟩ = some (.int .i64 f') ∧ W.cell? ⟨g6, 2, none⟩ = some (.slice P6 l'.length d6)) :=
      Lib.hid fun W hW => ⟨hW, keep_cell hW jl2 j0, keep_cell hW jl2 j1, keep_cell hW jl2 j2, keep_cell hW kl k0, keep_cell hW kl k1, keep_cell hW kl k2, keep_cell hW ml m0, keep_cell hW ml m1, keep_cell hW ml m2⟩
    have HX := Lib.hid fun W (hW : Below wd.heap.size wd W) => HI1.out W _ (v8.out.below hW (Nat.le_refl _))
    have HY := Lib.hid fun W (hW : Below wd.heap.size wd W) => HI2.out W _ (x8.out.below hW (Nat.le_refl _))
    have HC := Lib.hid fun W (h : Below wd.heap.size wd W ∧ W.cell? ⟨w.heap.size, 0, none⟩ = some (.string s) ∧ W.cell? ⟨w.heap.size, 1, none⟩ = some (.int .i64 f) ∧ W.cell? ⟨w.heap.size, 2, none⟩ = some (.slice A l.length c) ∧ W.cell? ⟨g5, 0, none⟩ = some (.string s) ∧ W.cell? ⟨g5, 1, none⟩ = some (.int .i64 f) ∧ W.cell? ⟨g5, 2, none⟩ = some (.slice P5 l.length d5) ∧ W.cell? ⟨g6, 0, none⟩ = some (.string s') ∧ W.cell? ⟨g6, 1, none⟩ = some (.int .i64 f') ∧ W.cell? ⟨g6, 2, none⟩ = some (.slice P6 l'.length d6)) => (api.check s f _ l W (HX.out W h.1)).mono fun e w' ⟨he, hb⟩ => (⟨he, bj h.1 hb⟩ : _ ∧ Below wd.heap.size wd w')
    have HCR := Lib.hid fun W (h : Below wd.heap.size wd W ∧ W.cell? ⟨w.heap.size, 0, none⟩ = some (.string s) ∧ W.cell? ⟨w.heap.size, 1, none⟩ = some (.int .i64 f) ∧ W.cell? ⟨w.heap.size, 2, none⟩ = some (.slice A l.length c) ∧ W.cell? ⟨g5, 0, none⟩ = some (.string s) ∧ W.cell? ⟨g5, 1, none⟩ = some (.int .i64 f) ∧ W.cell? ⟨g5, 2, none⟩ = some (.slice P5 l.length d5) ∧ W.cell? ⟨g6, 0, none⟩ = some (.string s') ∧ W.cell? ⟨g6, 1, none⟩ = some (.int .i64 f') ∧ W.cell? ⟨g6, 2, none⟩ = some (.slice P6 l'.length d6)) => (bcheck_ref s f _ l W (HX.out W h.1)).mono fun e w' ⟨he, hb⟩ => (⟨he, bj h.1 hb⟩ : _ ∧ Below wd.heap.size wd w')
    have HM := Lib.hid fun W (h : Below wd.heap.size wd W ∧ W.cell? ⟨w.heap.size, 0, none⟩ = some (.string s) ∧ W.cell? ⟨w.heap.size, 1, none⟩ = some (.int .i64 f) ∧ W.cell? ⟨w.heap.size, 2, none⟩ = some (.slice A l.length c) ∧ W.cell? ⟨g5, 0, none⟩ = some (.string s) ∧ W.cell? ⟨g5, 1, none⟩ = some (.int .i64 f) ∧ W.cell? ⟨g5, 2, none⟩ = some (.slice P5 l.length d5) ∧ W.cell? ⟨g6, 0, none⟩ = some (.string s') ∧ W.cell? ⟨g6, 1, none⟩ = some (.int .i64 f') ∧ W.cell? ⟨g6, 2, none⟩ = some (.slice P6 l'.length d6)) => (api.same s f _ l s' f' _ l' W (HX.out W h.1) (HY.out W h.1)).mono fun e w' ⟨he, hb⟩ => (⟨he, bj h.1 hb⟩ : _ ∧ Below wd.heap.size wd w')
    have HMR := Lib.hid fun W (h : Below wd.heap.size wd W ∧ W.cell? ⟨w.heap.size, 0, none⟩ = some (.string s) ∧ W.cell? ⟨w.heap.size, 1, none⟩ = some (.int .i64 f) ∧ W.cell? ⟨w.heap.size, 2, none⟩ = some (.slice A l.length c) ∧ W.cell? ⟨g5, 0, none⟩ = some (.string s) ∧ W.cell? ⟨g5, 1, none⟩ = some (.int .i64 f) ∧ W.cell? ⟨g5, 2, none⟩ = some (.slice P5 l.length d5) ∧ W.cell? ⟨g6, 0, none⟩ = some (.string s') ∧ W.cell? ⟨g6, 1, none⟩ = some (.int .i64 f') ∧ W.cell? ⟨g6, 2, none⟩ = some (.slice P6 l'.length d6)) => (bsame_ref s f _ l s' f' _ l' W (HX.out W h.1) (HY.out W h.1)).mono fun e w' ⟨he, hb⟩ => (⟨he, bj h.1 hb⟩ : _ ∧ Below wd.heap.size wd w')
    have HBT := Lib.hid fun W (h : Below wd.heap.size wd W ∧ W.cell? ⟨w.heap.size, 0, none⟩ = some (.string s) ∧ W.cell? ⟨w.heap.size, 1, none⟩ = some (.int .i64 f) ∧ W.cell? ⟨w.heap.size, 2, none⟩ = some (.slice A l.length c) ∧ W.cell? ⟨g5, 0, none⟩ = some (.string s) ∧ W.cell? ⟨g5, 1, none⟩ = some (.int .i64 f) ∧ W.cell? ⟨g5, 2, none⟩ = some (.slice P5 l.length d5) ∧ W.cell? ⟨g6, 0, none⟩ = some (.string s') ∧ W.cell? ⟨g6, 1, none⟩ = some (.int .i64 f') ∧ W.cell? ⟨g6, 2, none⟩ = some (.slice P6 l'.length d6)) => (HB1.out W (hbd.trans (h.1.mono hbd.size))).mono fun e w' ⟨u, he, hu, hb⟩ => (⟨u, he, hu, bj h.1 hb⟩ : ∃ u, e = Ending.returned (.agg #[.string s, .int .i64 f, u]) ∧ EvsIn w' u l ∧ Below wd.heap.size wd w')
    have hms := fun W u (h : Below wd.heap.size wd W ∧ W.cell? ⟨w.heap.size, 0, none⟩ = some (.string s) ∧ W.cell? ⟨w.heap.size, 1, none⟩ = some (.int .i64 f) ∧ W.cell? ⟨w.heap.size, 2, none⟩ = some (.slice A l.length c) ∧ W.cell? ⟨g5, 0, none⟩ = some (.string s) ∧ W.cell? ⟨g5, 1, none⟩ = some (.int .i64 f) ∧ W.cell? ⟨g5, 2, none⟩ = some (.slice P5 l.length d5) ∧ W.cell? ⟨g6, 0, none⟩ = some (.string s') ∧ W.cell? ⟨g6, 1, none⟩ = some (.int .i64 f') ∧ W.cell? ⟨g6, 2, none⟩ = some (.slice P6 l'.length d6)) (hu : EvsIn W u l) => bsame_ref s f _ l s f u l W (HX.out W h.1) (HI1.out W u hu)
    rw [bEq_self] at hms
    have HMS := Lib.hid fun W u (h : Below wd.heap.size wd W ∧ W.cell? ⟨w.heap.size, 0, none⟩ = some (.string s) ∧ W.cell? ⟨w.heap.size, 1, none⟩ = some (.int .i64 f) ∧ W.cell? ⟨w.heap.size, 2, none⟩ = some (.slice A l.length c) ∧ W.cell? ⟨g5, 0, none⟩ = some (.string s) ∧ W.cell? ⟨g5, 1, none⟩ = some (.int .i64 f) ∧ W.cell? ⟨g5, 2, none⟩ = some (.slice P5 l.length d5) ∧ W.cell? ⟨g6, 0, none⟩ = some (.string s') ∧ W.cell? ⟨g6, 1, none⟩ = some (.int .i64 f') ∧ W.cell? ⟨g6, 2, none⟩ = some (.slice P6 l'.length d6)) (hu : EvsIn W u l) => (hms W u h hu).mono fun e w' ⟨he, hb⟩ => (⟨he, bj h.1 hb⟩ : _ ∧ Below wd.heap.size wd w')
    clear hms
    have HH := Lib.hid fun W (h : Below wd.heap.size wd W ∧ W.cell? ⟨w.heap.size, 0, none⟩ = some (.string s) ∧ W.cell? ⟨w.heap.size, 1, none⟩ = some (.int .i64 f) ∧ W.cell? ⟨w.heap.size, 2, none⟩ = some (.slice A l.length c) ∧ W.cell? ⟨g5, 0, none⟩ = some (.string s) ∧ W.cell? ⟨g5, 1, none⟩ = some (.int .i64 f) ∧ W.cell? ⟨g5, 2, none⟩ = some (.slice P5 l.length d5) ∧ W.cell? ⟨g6, 0, none⟩ = some (.string s') ∧ W.cell? ⟨g6, 1, none⟩ = some (.int .i64 f') ∧ W.cell? ⟨g6, 2, none⟩ = some (.slice P6 l'.length d6)) => (batched_true api W).mono fun e w' ⟨he, hb⟩ => (⟨he, bj h.1 hb⟩ : _ ∧ Below wd.heap.size wd w')
    have e1 : ((batS s f l).toList == (batS s f l).toList) = true := by simp
    have e2 : (bchk s f l == bchk s f l) = true := by simp
    have e3 : (bEq s f l s' f' l' == bEq s f l s' f' l') = true := by simp
    unfold batV at HC HCR HM HMR HMS
    generalize batS s f l = B at *
    generalize bchk s f l = k at *
    generalize bEq s f l s' f' l' = q at *
    clear HX HY HI1 HI2 HB1 v8 x8 k0 k1 k2 m0 m1 m2 j0 j1 j2
    go_wp2_with fail
    go_region_held3 (fun W => Below wd.heap.size wd W ∧ W.cell? ⟨w.heap.size, 0, none⟩ = some (.string s) ∧ W.cell? ⟨w.heap.size, 1, none⟩ = some (.int .i64 f) ∧ W.cell? ⟨w.heap.size, 2, none⟩ = some (.slice A l.length c) ∧ W.cell? ⟨g5, 0, none⟩ = some (.string s) ∧ W.cell? ⟨g5, 1, none⟩ = some (.int .i64 f) ∧ W.cell? ⟨g5, 2, none⟩ = some (.slice P5 l.length d5) ∧ W.cell? ⟨g6, 0, none⟩ = some (.string s') ∧ W.cell? ⟨g6, 1, none⟩ = some (.int .i64 f') ∧ W.cell? ⟨g6, 2, none⟩ = some (.slice P6 l'.length d6))
      (first | (with_reducible assumption) | ((with_reducible refine HS.out _ ?_); (first | (with_reducible assumption) | (with_reducible exact Below.refl _ _) | (with_reducible exact (Below.refl _ _).drew)); done) | fail)
      (first
      | (go_at_call 13; ((with_reducible refine (HC.out _ (by with_reducible assumption)).mono ?_); rintro e w' ⟨rfl, hb⟩))
      | (go_at_call 14; ((with_reducible refine (HCR.out _ (by with_reducible assumption)).mono ?_); rintro e w' ⟨rfl, hb⟩))
      | (go_at_call 15; ((with_reducible refine (HM.out _ (by with_reducible assumption)).mono ?_); rintro e w' ⟨rfl, hb⟩))
      | (go_at_call 16; ((with_reducible refine (HMR.out _ (by with_reducible assumption)).mono ?_); rintro e w' ⟨rfl, hb⟩))
      | (go_at_call 10; ((with_reducible refine (HBT.out _ (by with_reducible assumption)).mono ?_); rintro e w8 ⟨u8, rfl, hu8, hb⟩; obtain ⟨P8, d8, rfl⟩ := hu8.form))
      | (go_at_call 16; ((with_reducible refine (HMS.out _ _ (by with_reducible assumption) (by with_reducible assumption)).mono ?_); rintro e w' ⟨rfl, hb⟩))
      | (go_at_call 9; ((with_reducible refine (HH.out _ (by with_reducible assumption)).mono ?_); rintro e w' ⟨rfl, hb⟩))
      | fail)
    all_goals
      go_wp2
      go_ret
      exact ⟨rfl, held_on hbd (by with_reducible assumption)⟩

/-- BatchesTell. -/
theorem btell_walk (api : BatApi) (s : ByteArray) (f : Int) (v : Value) (l : List RawS) (s' : ByteArray) (f' : Int) (v' : Value) (l' : List RawS) (w : World) (hs : s.size ≤ maxLen) (hf : (Lit.int .i64 f).wf = true) (h : RawsIn w v l) (hok : ∀ x ∈ l, RawOk x) (hs' : s'.size ≤ maxLen) (hf' : (Lit.int .i64 f').wf = true) (h' : RawsIn w v' l') (hok' : ∀ x ∈ l', RawOk x) :
    Calls Try.prog 3 #[batV s f v, batV s' f' v'] w fun e w' => e = .returned (.bool true) ∧ Below w.heap.size w w' := by
  cases hg : bgrt s l with
  | true => exact btell_great api s f v l s' f' v' l' w hs h hok hs' h' hok' (Or.inl hg)
  | false =>
    cases hg' : bgrt s' l' with
    | true => exact btell_great api s f v l s' f' v' l' w hs h hok hs' h' hok' (Or.inr hg')
    | false => exact btell_small api s f v l s' f' v' l' w hs h hok hs' h' hok' hf hf' hg hg'
end Go.Proofs.Ytnefofcofccmfaa

/- BatchesFirst over what the program's batches answer. -/
import Derived.Test.YtnefofcofccmfaaBatGetWalk
namespace Go.Proofs.Ytnefofcofccmfaa
open Go.RowKit
set_option linter.unusedVariables false
attribute [local go_sem] run_store_float

theorem raw_ev {s : ByteArray} {l : List RawS} (h : bgrt s l = false) (hok : ∀ x ∈ l, RawOk x) : s.size ≤ 1000 ∧ l.length ≤ 12 ∧ ∀ x ∈ l, EvSz x := by
  obtain ⟨h1, h2, h3⟩ := bgrt_no h
  exact ⟨h1, h2, fun x hx => ⟨by have := (h3 x hx).1; omega, by have := (h3 x hx).2; omega, (hok x hx).b⟩⟩
theorem bat_of {w : World} {s : ByteArray} {f : Int} {u : Value} {l : List RawS} (hs : s.size ≤ 1000) (hl : l.length ≤ 12) (hx : ∀ x ∈ l, EvSz x) (hf : (Lit.int .i64 f).wf = true) (h : EvsIn w u l) : BatIn w s f u l := ⟨by omega, hf, h, by omega, hx⟩
theorem EvsIn.set1 {w : World} {g : Nat} {T : TypeId} {x z : Value} {f : Int} {u : Value} {l : List RawS} (h : EvsIn w u l) (hb : Blk3 w g T x (.int .i64 f) z) (i : Nat) (y : Value) : EvsIn (w.setCell ⟨g, i, none⟩ y) u l :=
  h.off hb (by simp [World.setCell]) fun k _ hk => Below.heap_setCell _ _ _ _ hk

theorem bfirst_great (api : BatApi) (s : ByteArray) (f : Int) (v : Value) (l : List RawS) (a : Int) (w : World) (hs : s.size ≤ maxLen) (h : RawsIn w v l) (hok : ∀ x ∈ l, RawOk x) (hg : bgrt s l = true) :
    Calls Try.prog 7 #[batV s f v, .int .i64 a] w fun e w' => e = .returned (.bool true) ∧ Below w.heap.size w w' := by
  obtain ⟨A, c, rfl⟩ := h.form
  have hbw : Below w.heap.size w (w.alloc (.cells #[.string s, .int .i64 f, .slice A l.length c] 24)) := (Below.refl _ _).alloc (Nat.le_refl _) _
  have HG := Lib.hid (bgreat_any s f _ l _ hs (h.below hbw (Nat.le_refl _)) hok)
  rw [hg] at HG
  unfold batV at HG ⊢
  clear h hok hg hs
  go_enter Try.func7, Try.ntmps7
  go_wp2_with fail
  refine HG.out.mono ?_
  rintro e w1 ⟨rfl, hb1⟩
  go_wp2_with fail
  refine (batched_true api _).mono ?_
  rintro e w2 ⟨rfl, hb2⟩
  go_wp2
  go_ret
  exact ⟨rfl, bj (hbw.trans (hb1.mono (by simp))) hb2⟩

set_option maxHeartbeats 1600000 in
set_option maxRecDepth 100000 in
theorem bfirst_small (api : BatApi) (s : ByteArray) (f : Int) (v : Value) (l : List RawS) (a : Int) (w : World) (hs : s.size ≤ maxLen) (h : RawsIn w v l) (hok : ∀ x ∈ l, RawOk x) (hg : bgrt s l = false) (ha : (Lit.int .i64 a).wf = true) :
    Calls Try.prog 7 #[batV s f v, .int .i64 a] w fun e w' => e = .returned (.bool true) ∧ Below w.heap.size w w' := by
  obtain ⟨z1, z2, z3⟩ := raw_ev hg hok
  have HR := Lib.hid fun W (hW : Below w.heap.size w W) => h.below hW (Nat.le_refl _)
  obtain ⟨A, c, rfl⟩ := h.form
  have hbw : Below w.heap.size w (w.alloc (.cells #[.string s, .int .i64 f, .slice A l.length c] 24)) := (Below.refl _ _).alloc (Nat.le_refl _) _
  have R0 := Blk3.new w 24 (.string s) (.int .i64 f) (.slice A l.length c)
  have HG := Lib.hid (bgreat_any s f _ l _ hs (h.below hbw (Nat.le_refl _)) hok)
  rw [hg] at HG
  have HB := Lib.hid fun W hW => batch_any s 0 (.slice A l.length c) l W (HR.out W hW) (by omega)
  have HBI := Lib.hid fun W u f hf hu => bat_of (w := W) (s := s) (f := f) (u := u) (l := l) z1 z2 z3 hf hu
  have HC0 := Lib.hid fun W u hu => api.check s 0 u l W (HBI.out W u 0 (by decide) hu)
  have HC1 := Lib.hid fun W u hu => api.check s a u l W (HBI.out W u a ha hu)
  have hab := bounds_i64 ha
  unfold batV at HG HB HC0 HC1 ⊢
  clear h hok hg hs HBI z3
  go_enter Try.func7, Try.ntmps7
  go_wp2_with fail
  refine HG.out.mono ?_
  rintro e w1 ⟨rfl, hb1⟩
  have R1 := R0.below hb1
  have hb2 := hbw.trans (hb1.mono (by simp))
  have R2 := R1.set1 (.int .i64 0)
  have hb3 := hb2.setCell (p := ⟨w.heap.size, 1, none⟩) (Nat.le_refl _) (.int .i64 0)
  obtain ⟨k0, k1, k2, f0, f1, f2, kl⟩ := R1.facts
  have HBB := Lib.hid (HB.out _ hb3)
  clear R0 hbw hb1 hb2 HG HB HR
  go_wp2_with fail
  refine HBB.out.mono ?_
  rintro e w2 ⟨u, rfl, hu, hb4⟩
  obtain ⟨A2, c2, rfl⟩ := hu.form
  have E2 := Blk3.new w2 28 (.string s) (.int .i64 0) (.slice A2 l.length c2)
  have hu2 := hu.below ((Below.refl _ w2).alloc (Nat.le_refl _) (.cells #[.string s, .int .i64 0, .slice A2 l.length c2] 28)) (Nat.le_refl _)
  have hb5 := (bj hb3 hb4).alloc (bj hb3 hb4).size (.cells #[.string s, .int .i64 0, .slice A2 l.length c2] 28)
  have hw2 := (bj hb3 hb4).size
  have HX := Lib.hid (HC0.out _ _ hu2)
  have HU := Lib.hid hu2
  clear hu hu2 HBB hb3 hb4 R1 R2 HC0
  by_cases hc : bchk s 0 l = 0
  · obtain ⟨y1, y2, y3, y4, _, _, y7⟩ := bchk_zero.1 hc
    rw [hc] at HX
    by_cases hm : 0 ≤ a ∧ a ≤ 1073741824 - (l.length : Int)
    · have hc1 : bchk s a l = 0 := bchk_zero.2 ⟨y1, y2, y3, y4, hm.1, hm.2, y7⟩
      rw [hc1] at HC1
      have t1 : decide (0 ≤ a) = true := decide_eq_true hm.1
      have t2 : decide (a ≤ 1073741824 - (l.length : Int)) = true := decide_eq_true hm.2
      clear hc1 hc y7 hm
      go_wp2_with fail
      refine HX.out.mono ?_
      rintro e w4 ⟨rfl, hb6⟩
      have E4 := E2.below hb6
      obtain ⟨e0, e1, e2, g0, g1, g2, el⟩ := E4.facts
      have hu5 := (HU.out.below hb6 (Nat.le_refl _)).set1 E4 1 (.int .i64 a)
      have hb7 := (bj hb5 hb6).setCell (p := ⟨w2.heap.size, 1, none⟩) hw2 (.int .i64 a)
      have HY := Lib.hid (HC1.out _ _ hu5)
      clear E2 E4 HU HX hu5 hb5 hb6 HC1
      go_wp2_with fail
      refine HY.out.mono ?_
      rintro e w5 ⟨rfl, hb8⟩
      go_wp2_with fail
      refine (batched_true api _).mono ?_
      rintro e w6 ⟨rfl, hb9⟩
      go_wp2
      go_ret
      exact ⟨rfl, bj hb7 (bj hb8 hb9)⟩
    · have hc1 : bchk s a l = 2 := bchk_first (by omega) (by omega) (by omega)
      rw [hc1] at HC1
      have hnn : decide (0 ≤ a ∧ a ≤ 1073741824 - (l.length : Int)) = false := decide_eq_false hm
      by_cases h0 : 0 ≤ a
      · have t1 : decide (0 ≤ a) = true := decide_eq_true h0
        have t2 : decide (a ≤ 1073741824 - (l.length : Int)) = false := decide_eq_false (fun h => hm ⟨h0, h⟩)
        clear hc1 hc y7 hm hnn
        go_wp2_with fail
        refine HX.out.mono ?_
        rintro e w4 ⟨rfl, hb6⟩
        have E4 := E2.below hb6
        have E5 := E4.set1 (.int .i64 a)
        obtain ⟨e0, e1, e2, g0, g1, g2, el⟩ := E4.facts
        have hu5 := (HU.out.below hb6 (Nat.le_refl _)).set1 E4 1 (.int .i64 a)
        have hb7 := (bj hb5 hb6).setCell (p := ⟨w2.heap.size, 1, none⟩) hw2 (.int .i64 a)
        have HY := Lib.hid (HC1.out _ _ hu5)
        have HU5 := Lib.hid hu5
        clear E2 E4 HU HX hu5 hb5 hb6
        go_wp2_with fail
        refine HY.out.mono ?_
        rintro e w5 ⟨rfl, hb8⟩
        obtain ⟨i0, i1, i2, _, _, _, il⟩ := (E5.below hb8).facts
        have HY2 := Lib.hid (HC1.out _ _ (HU5.out.below hb8 (Nat.le_refl _)))
        have hb8' := bj hb7 hb8
        clear E5 HU5 hb8 HY HC1 hb7
        go_wp2_with fail
        refine HY2.out.mono ?_
        rintro e w7 ⟨rfl, hb9⟩
        go_wp2_with fail
        refine (batched_true api _).mono ?_
        rintro e w6 ⟨rfl, hb10⟩
        go_wp2
        go_ret
        exact ⟨rfl, bj hb8' (bj hb9 hb10)⟩
      · have t1 : decide (0 ≤ a) = false := decide_eq_false h0
        clear hc1 hc y7 hm hnn
        go_wp2_with fail
        refine HX.out.mono ?_
        rintro e w4 ⟨rfl, hb6⟩
        have E4 := E2.below hb6
        have E5 := E4.set1 (.int .i64 a)
        obtain ⟨e0, e1, e2, g0, g1, g2, el⟩ := E4.facts
        have hu5 := (HU.out.below hb6 (Nat.le_refl _)).set1 E4 1 (.int .i64 a)
        have hb7 := (bj hb5 hb6).setCell (p := ⟨w2.heap.size, 1, none⟩) hw2 (.int .i64 a)
        have HY := Lib.hid (HC1.out _ _ hu5)
        have HU5 := Lib.hid hu5
        clear E2 E4 HU HX hu5 hb5 hb6
        go_wp2_with fail
        refine HY.out.mono ?_
        rintro e w5 ⟨rfl, hb8⟩
        obtain ⟨i0, i1, i2, _, _, _, il⟩ := (E5.below hb8).facts
        have HY2 := Lib.hid (HC1.out _ _ (HU5.out.below hb8 (Nat.le_refl _)))
        have hb8' := bj hb7 hb8
        clear E5 HU5 hb8 HY HC1 hb7
        go_wp2_with fail
        refine HY2.out.mono ?_
        rintro e w7 ⟨rfl, hb9⟩
        go_wp2_with fail
        refine (batched_true api _).mono ?_
        rintro e w6 ⟨rfl, hb10⟩
        go_wp2
        go_ret
        exact ⟨rfl, bj hb8' (bj hb9 hb10)⟩
  · have t1 : (bchk s 0 l != 0) = true := by simp; exact hc
    have t2 : (bchk s 0 l == 0) = false := by simp; exact hc
    generalize bchk s 0 l = r at *
    clear hc HC1
    go_wp2_with fail
    refine HX.out.mono ?_
    rintro e w4 ⟨rfl, hb6⟩
    go_wp2_with fail
    refine (batched_true api _).mono ?_
    rintro e w6 ⟨rfl, hb10⟩
    go_wp2
    go_ret
    exact ⟨rfl, bj hb5 (bj hb6 hb10)⟩

/-- BatchesFirst. -/
theorem bfirst_walk (api : BatApi) (s : ByteArray) (f : Int) (v : Value) (l : List RawS) (a : Int) (w : World) (hs : s.size ≤ maxLen) (h : RawsIn w v l) (hok : ∀ x ∈ l, RawOk x) (ha : (Lit.int .i64 a).wf = true) :
    Calls Try.prog 7 #[batV s f v, .int .i64 a] w fun e w' => e = .returned (.bool true) ∧ Below w.heap.size w w' := by
  cases hg : bgrt s l with
  | true => exact bfirst_great api s f v l a w hs h hok hg
  | false => exact bfirst_small api s f v l a w hs h hok hg ha
end Go.Proofs.Ytnefofcofccmfaa

/- 'MidsNarrow': the walk. -/
import Derived.Test.YtipimfimibnjiaaMdEx
import Derived.Test.YtipimfimibnjiaaMdNarrowRef
import Derived.Test.YtipimfimibnjiaaEntSortRef
namespace Go.Proofs.Ytipimfimibnjiaa
open Go.RowKit Go.Shelf
set_option linter.unusedVariables false
attribute [local go_sem ↓] Go.wp_at_zero Go.wp_at_succ

namespace midsNarrow
set_option maxHeartbeats 4000000 in
set_option maxRecDepth 100000 in
theorem walk_ (w : World) (v : Value) (l : List EntS) (x : EntS) (hl : EntsIn w v l) :
    Calls Try.prog 4 #[v, entB x] w (MidEnd w) := by
  have HMI := Lib.hid fun W => middle_true W
  have hb1 := (Below.refl w.heap.size w).alloc (Nat.le_refl _) (.cells #[.int .u64 (x.h : Nat), .int .i64 x.v, .int .i64 x.p] 29)
  have E1 := Blok.new w 29 #[.int .u64 (x.h : Nat), .int .i64 x.v, .int .i64 x.p]
  obtain ⟨w1, hw1⟩ : ∃ w1, w.alloc (.cells #[.int .u64 (x.h : Nat), .int .i64 x.v, .int .i64 x.p] 29) = w1 := ⟨_, rfl⟩
  obtain ⟨B, hB⟩ : ∃ B, w.heap.size = B := ⟨_, rfl⟩
  rw [hw1] at hb1 E1
  rw [hB] at E1
  have HB1 := Lib.hid hb1
  have HE := Lib.hid (show ∀ W, Below w1.heap.size w1 W → W.cell? ⟨B, 0, none⟩ = some (.int .u64 (x.h : Nat)) ∧ W.cell? ⟨B, 1, none⟩ = some (.int .i64 x.v) ∧ W.cell? ⟨B, 2, none⟩ = some (.int .i64 x.p) from fun W hW =>
    ⟨(hW.cell (p := ⟨B, 0, none⟩) E1.lt).trans (E1.cell 0), (hW.cell (p := ⟨B, 1, none⟩) E1.lt).trans (E1.cell 1), (hW.cell (p := ⟨B, 2, none⟩) E1.lt).trans (E1.cell 2)⟩)
  obtain ⟨A0, off, cap, hv, -, -⟩ := hl.form
  by_cases hn : l.length ≤ 100
  case neg =>
    subst hv
    have t1 : decide ((100 : Int) < (l.length : Int)) = true := decide_eq_true (by omega)
    have t2 : (100 : Int) < (l.length : Int) := by omega
    have t3 : 100 < l.length := by omega
    clear hl hn E1 hb1
    generalize l.length = n at *
    obtain ⟨xh, xv, xp⟩ := x
    go_enter Try.func4, Try.ntmps4
    go_wp2_with fail
    refine (HMI.out w1).mono ?_
    rintro e w3 ⟨rfl, hb3⟩
    go_wp2
    go_ret
    exact ⟨rfl, bj HB1.out hb3⟩
  have HSO := Lib.hid (sortr_any v l w1 (hl.below hb1 (Nat.le_refl _)) (by omega))
  have hsl := sort_length l
  have HR := Lib.hid (sort_rise l)
  have t1 : decide ((100 : Int) < (l.length : Int)) = false := decide_eq_false (by omega)
  have t2 : ¬ (100 : Int) < (l.length : Int) := by omega
  have t3 : decide (100 < l.length) = false := decide_eq_false (by omega)
  subst hv
  obtain ⟨n0, hn0⟩ : ∃ n0, n0 = l.length := ⟨_, rfl⟩
  rw [← hn0] at hn hsl t1 t2 t3 HSO ⊢
  clear hl hn0 E1 hb1
  generalize sortE l = s at *
  clear l
  have hs100 : s.length ≤ 100 := by omega
  obtain ⟨n, hnn⟩ : ∃ n, n = s.length := ⟨_, rfl⟩
  have HN := Lib.hid hnn
  unfold EntsOut at HSO
  rw [← hnn] at hs100 HSO
  clear hsl hnn hn
  obtain ⟨xh, xv, xp⟩ := x
  simp only at hw1 HE
  go_enter Try.func4, Try.ntmps4
  go_wp2_with fail
  refine HSO.out.mono ?_
  rintro e w2 ⟨A2, c2, rfl, hrow, hb2⟩
  have HIN := Lib.hid (EntRow.in_ hrow)
  have HM := Lib.hid (mmake_ref _ _ w2 HIN.out (by rw [← HN.out]; omega))
  have HB2 := Lib.hid hb2
  clear hrow hb2 HSO
  go_wp2_with fail
  refine HM.out.mono ?_
  rintro e w3 ⟨A3, c3, rfl, hrow, hb3⟩
  have HB3 := Lib.hid (bj HB2.out hb3)
  have HMIN := Lib.hid (show ∀ W, Below w3.heap.size w3 W → MidsIn W (.slice A3 (midsL s).length c3) (midsL s) from fun W hW => (MidRow.in_ hrow).below hW (Nat.le_refl _))
  have HF := Lib.hid (show ∀ W, Below w3.heap.size w3 W → ∃ A off cap, Value.slice A2 n c2 = .slice A s.length cap ∧ s.length ≤ maxLen ∧ ∀ i y, s[i]? = some y → ∃ b, A = some ⟨b, off, none⟩ ∧ b < W.heap.size ∧ W.cell? ⟨b, off + i * 3, none⟩ = some (.int .u64 (y.h : Nat)) ∧ W.cell? ⟨b, off + i * 3 + 1, none⟩ = some (.int .i64 y.v) ∧ W.cell? ⟨b, off + i * 3 + 2, none⟩ = some (.int .i64 y.p) from fun W hW =>
    (HIN.out.below (bj hb3 hW) (Nat.le_refl _)).form)
  -- both answers, at any entry
  have HNA := Lib.hid (show ∀ y : EntS, ∃ lo hi : Nat, lo ≤ 100 ∧ hi ≤ 100 ∧ ∀ W, Below w3.heap.size w3 W →
      Calls Try.prog 13 #[.slice A3 (midsL s).length c3, .int .i64 (n : Nat), entB y] W (NarEnd ((lo : Int), (hi : Int)) W) ∧ Calls Try.prog 14 #[.slice A3 (midsL s).length c3, .int .i64 (n : Nat), entB y] W (NarEnd ((lo : Int), (hi : Int)) W) from fun y => by
    have hs : s.length ≤ 1000000 := by rw [← HN.out]; omega
    obtain ⟨lo, hi, h⟩ := nar_is HR.out hs y
    have h1 := h.at_least
    have h2 := h.at_most
    have h3 := h.top
    rw [← HN.out] at h3
    refine ⟨lo, hi, by omega, by omega, fun W hW => ?_⟩
    rw [HN.out]
    exact ⟨h.run (HMIN.out W hW) hs, h.run_ref (HMIN.out W hW) hs⟩)
  clear hrow hb3 HM HIN HMIN HR
  generalize (midsL s).length = ml at *
  go_wp2
  go_loopw [7] (fun i wr => ∃ (k : Nat) (d : Int), k ≤ n + 1 ∧ d = (k : Int) - 1 ∧ i = .int .i64 d ∧ Below w3.heap.size w3 wr) (fun i _ => (n : Int).toNat + 1 - (intOf i + 1).toNat)
  case atStart => exact ⟨0, -1, by omega, rfl, rfl, Below.refl _ _⟩
  case round =>
    obtain ⟨k, d, hk, hd, rfl, hbel⟩ := hrel
    have hbw1 : Below w1.heap.size w1 wr := bj HB3.out hbel
    obtain ⟨a0, a1, a2⟩ := HE.out wr hbw1
    by_cases hlt : k < n + 1
    · have s1 : d < (n : Int) := by omega
      have HBEL := Lib.hid hbel
      cases k with
      | zero =>
        have hd1 : d = -1 := by omega
        have HD := Lib.hid hd1
        have s2 : ¬ (0 : Int) ≤ d := by omega
        have s3 : decide ((0 : Int) ≤ d) = false := decide_eq_false s2
        have s4 : IntKind.i64.wrap (d + 1) = 0 := by rw [hd1]; rfl
        clear hd hd1
        obtain ⟨lo, hi, hlo, hhi, hrun⟩ := HNA.out ⟨xh, xv, xp⟩
        have hb5 := hbel.alloc hbel.size (.cells #[.int .u64 (xh : Nat), .int .i64 xv, .int .i64 xp] 29)
        have E5 := Blok.new wr 29 #[.int .u64 (xh : Nat), .int .i64 xv, .int .i64 xp]
        have HB5 := Lib.hid hb5
        have HE5 := Lib.hid E5
        have HRUN := Lib.hid hrun
        have k0 := E5.cell 0
        have k1 := E5.cell 1
        have k2 := E5.cell 2
        clear hrun hbel hb5 E5 hbw1
        go_wp2_with fail
        refine ((HRUN.out _ HB5.out).1).mono ?_
        rintro e w6 ⟨rfl, hb6⟩
        have HB6 := Lib.hid (bj HB5.out hb6)
        have E6 := (HE5.out).touch (Touch.of_below hb6) (by simp)
        have j0 := E6.cell 0
        have j1 := E6.cell 1
        have j2 := E6.cell 2
        have t6 : ((lo : Int) != (lo : Int)) = false := by simp
        have t7 : ((hi : Int) != (hi : Int)) = false := by simp
        clear hb6 E6 k0 k1 k2
        go_wp2_with fail
        refine ((HRUN.out _ HB6.out).2).mono ?_
        rintro e w7 ⟨rfl, hb7⟩
        have HB7 := Lib.hid (bj HB6.out hb7)
        clear hb7 j0 j1 j2
        go_wp2
        go_roundw
        case rel => exact ⟨1, 0, by omega, rfl, rfl, HB7.out⟩
        case measure => simp [intOf]; omega
      | succ p =>
        obtain rfl : d = (p : Int) := by omega
        have s2 : (0 : Int) ≤ (p : Int) := by omega
        have s3 : p < n := by omega
        clear hd
        obtain ⟨y, hy⟩ : ∃ y, s[p]? = some y := ⟨_, List.getElem?_eq_getElem (by rw [← HN.out]; omega)⟩
        obtain ⟨lo, hi, hlo, hhi, hrun⟩ := HNA.out y
        have hb5 := hbel.alloc hbel.size (.cells #[.int .u64 (xh : Nat), .int .i64 xv, .int .i64 xp] 29)
        have E5 := Blok.new wr 29 #[.int .u64 (xh : Nat), .int .i64 xv, .int .i64 xp]
        obtain ⟨A', o', cp, e', -, hcl⟩ := HF.out _ hb5
        obtain ⟨rfl, -, rfl⟩ := Value.slice.inj e'
        obtain ⟨ob, rfl, hob, g0, g1, g2⟩ := hcl p y hy
        have HB5 := Lib.hid (hbel.alloc hbel.size (.cells #[.int .u64 (y.h : Nat), .int .i64 y.v, .int .i64 y.p] 29))
        have HE5 := Lib.hid (Blok.new wr 29 #[.int .u64 (y.h : Nat), .int .i64 y.v, .int .i64 y.p])
        have HRUN := Lib.hid hrun
        have k0 := E5.cell 0
        have k1 := E5.cell 1
        have k2 := E5.cell 2
        have f0 := E5.frozen 0
        have f1 := E5.frozen 1
        have f2 := E5.frozen 2
        clear hrun hbel hb5 E5 hbw1 hcl e' hy
        obtain ⟨yh, yv, yp⟩ := y
        simp only at g0 g1 g2 HRUN HB5 HE5
        go_wp2_with fail
        refine ((HRUN.out _ HB5.out).1).mono ?_
        rintro e w6 ⟨rfl, hb6⟩
        have HB6 := Lib.hid (bj HB5.out hb6)
        have E6 := (HE5.out).touch (Touch.of_below hb6) (by simp)
        have j0 := E6.cell 0
        have j1 := E6.cell 1
        have j2 := E6.cell 2
        have t6 : ((lo : Int) != (lo : Int)) = false := by simp
        have t7 : ((hi : Int) != (hi : Int)) = false := by simp
        clear hb6 E6 k0 k1 k2 g0 g1 g2 f0 f1 f2
        go_wp2_with fail
        refine ((HRUN.out _ HB6.out).2).mono ?_
        rintro e w7 ⟨rfl, hb7⟩
        have HB7 := Lib.hid (bj HB6.out hb7)
        clear hb7 j0 j1 j2
        go_wp2
        go_roundw
        case rel => exact ⟨p + 2, (p : Int) + 1, by omega, by omega, by go_num, HB7.out⟩
        case measure => simp [intOf]; omega
    · have s1 : decide (d < (n : Int)) = false := decide_eq_false (by omega)
      have s2 : ¬ d < (n : Int) := by omega
      have hd2 : d = (n : Int) := by omega
      have HBEL := Lib.hid hbel
      clear hd hlt hk hbel hbw1 a0 a1 a2
      go_wp2_with fail
      refine (HMI.out _).mono ?_
      rintro e w6 ⟨rfl, hb6⟩
      go_wp2
      go_ret
      exact ⟨rfl, bj (bj HB1.out (bj HB3.out HBEL.out)) hb6⟩
theorem walk (w : World) (v : Value) (l : List EntS) (x : EntS) (hl : EntsIn w v l) (hok : ∀ x ∈ l, EntOk x) (hx : EntOk x) :
    Calls Try.prog 4 #[v, entB x] w fun e w' => e = .returned (.bool true) ∧ Below w.heap.size w w' := walk_ w v l x hl
end midsNarrow
end Go.Proofs.Ytipimfimibnjiaa

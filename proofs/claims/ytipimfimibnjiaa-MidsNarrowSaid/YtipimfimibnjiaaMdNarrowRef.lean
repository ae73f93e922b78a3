/- Narrow: the document's. -/
import Derived.Test.YtipimfimibnjiaaMdNarrow
import Derived.Test.YtipimfimibnjiaaEntRef
namespace Go.Proofs.Ytipimfimibnjiaa
open Go.RowKit Go.Shelf
set_option linter.unusedVariables false
attribute [local go_sem ↓] Go.wp_at_zero Go.wp_at_succ

theorem hi_step {m : List MidS} {c p : Nat} {many : Int} {y : MidS} (hy : m[p]? = some y) (h : ¬ p < c) : hiM m (max c p) many = y.k := by
  rw [show max c p = p by omega]
  unfold hiM
  rw [hy]
theorem hi_stay {m : List MidS} {c p : Nat} {many : Int} (h : p < c) : hiM m (max c p) many = hiM m (max c (p + 1)) many := by
  rw [show max c p = max c (p + 1) by omega]
theorem hi_end {m : List MidS} {c : Nat} {many : Int} : hiM m (max c 0) many = hiM m c many := by rw [show max c 0 = c by omega]
theorem hi_first {m : List MidS} {c : Nat} {many : Int} (h : c ≤ m.length) : hiM m (max c m.length) many = many := by
  rw [show max c m.length = m.length by omega]
  unfold hiM
  rw [List.getElem?_eq_none (Nat.le_refl _)]
theorem lo_step {m : List MidS} {c p : Nat} {y : MidS} (hy : m[p]? = some y) (h : p < c) : loM m (min c (p + 1)) = y.k + 1 := by
  rw [show min c (p + 1) = p + 1 by omega]
  unfold loM
  rw [if_neg (Nat.succ_ne_zero p), Nat.add_sub_cancel, hy]
theorem lo_stay {m : List MidS} {c p : Nat} (h : ¬ p < c) : loM m (min c (p + 1)) = loM m (min c p) := by
  rw [show min c (p + 1) = min c p by omega]
theorem lo_end {m : List MidS} {c : Nat} (h : c ≤ m.length) : loM m (min c m.length) = loM m c := by rw [show min c m.length = c by omega]
set_option maxHeartbeats 4000000 in
set_option maxRecDepth 100000 in
theorem narrow_ref (v : Value) (m : List MidS) (c : Nat) (many : Int) (x : EntS) (w : World) (hm : MidsIn w v m) (hn : m.length ≤ 1000000) (hc : CutM x m c) (hw : ∀ y ∈ m, IntKind.i64.wrap (y.k + 1) = y.k + 1) :
    Calls Try.prog 14 #[v, .int .i64 many, entB x] w (NarEnd (loM m c, hiM m c many) w) := by
  obtain ⟨A0, off, cap, rfl, hmax, hcell⟩ := hm.form
  have HC := Lib.hid hcell
  obtain ⟨n, hnn⟩ : ∃ n, n = m.length := ⟨_, rfl⟩
  have HN := Lib.hid hnn
  have HCUT := Lib.hid hc
  have HW := Lib.hid hw
  rw [← hnn] at hn ⊢
  have hb1 := (Below.refl w.heap.size w).alloc (Nat.le_refl _) (.cells #[.int .u64 (x.h : Nat), .int .i64 x.v, .int .i64 x.p] 29)
  have E1 := Blok.new w 29 #[.int .u64 (x.h : Nat), .int .i64 x.v, .int .i64 x.p]
  obtain ⟨w1, hw1⟩ : ∃ w1, w.alloc (.cells #[.int .u64 (x.h : Nat), .int .i64 x.v, .int .i64 x.p] 29) = w1 := ⟨_, rfl⟩
  obtain ⟨B, hB⟩ : ∃ B, w.heap.size = B := ⟨_, rfl⟩
  rw [hw1] at hb1 E1
  rw [hB] at E1
  have HB1 := Lib.hid hb1
  have HE := Lib.hid (show ∀ W, Below w1.heap.size w1 W → W.cell? ⟨B, 0, none⟩ = some (.int .u64 (x.h : Nat)) ∧ W.cell? ⟨B, 1, none⟩ = some (.int .i64 x.v) ∧ W.cell? ⟨B, 2, none⟩ = some (.int .i64 x.p) from fun W hW =>
    ⟨(hW.cell (p := ⟨B, 0, none⟩) E1.lt).trans (E1.cell 0), (hW.cell (p := ⟨B, 1, none⟩) E1.lt).trans (E1.cell 1), (hW.cell (p := ⟨B, 2, none⟩) E1.lt).trans (E1.cell 2)⟩)
  have HCC := Lib.hid (show ∀ W, Below w1.heap.size w1 W → ∀ i y, m[i]? = some y → ∃ b, A0 = some ⟨b, off, none⟩ ∧ b < w1.heap.size ∧ W.cell? ⟨b, off + i * 4, none⟩ = some (.int .u64 (y.e.h : Nat)) ∧ W.cell? ⟨b, off + i * 4 + 1, none⟩ = some (.int .i64 y.e.v) ∧ W.cell? ⟨b, off + i * 4 + 2, none⟩ = some (.int .i64 y.e.p) ∧ W.cell? ⟨b, off + i * 4 + 3, none⟩ = some (.int .i64 y.k) from fun W hW i y hy => by
    obtain ⟨b, e, hb, c0, c1, c2, c3⟩ := HC.out i y hy
    have hW2 := bj HB1.out hW
    exact ⟨b, e, Nat.lt_of_lt_of_le hb HB1.out.size, (hW2.cell (p := ⟨b, off + i * 4, none⟩) hb).trans c0, (hW2.cell (p := ⟨b, off + i * 4 + 1, none⟩) hb).trans c1, (hW2.cell (p := ⟨b, off + i * 4 + 2, none⟩) hb).trans c2, (hW2.cell (p := ⟨b, off + i * 4 + 3, none⟩) hb).trans c3⟩)
  have h0 : hiM m (max c n) many = many := by rw [hnn]; exact hi_first hc.1
  have H0 := Lib.hid h0
  clear hm hcell hnn HC hb1 E1 hc hw h0 hmax
  obtain ⟨xh, xv, xp⟩ := x
  simp only at hw1 HE HCUT
  go_enter Try.func14, Try.ntmps14
  go_wp2
  go_loopw [9, 10] (fun hi i wr => ∃ (j : Nat) (d : Int), j ≤ n ∧ d = (j : Int) - 1 ∧ i = .int .i64 d ∧ hi = .int .i64 (hiM m (max c j) many) ∧ Below w1.heap.size w1 wr) (fun _ i _ => (intOf i + 1).toNat)
  case atStart => exact ⟨n, (n : Int) - 1, Nat.le_refl _, rfl, rfl, by rw [H0.out], Below.refl _ _⟩
  case round =>
    obtain ⟨j, d, hj, hd, rfl, rfl, hbel⟩ := hrel
    cases j with
    | succ p =>
      obtain rfl : d = (p : Int) := by omega
      clear hd
      have s1 : (0 : Int) ≤ (p : Int) := by omega
      have s2 : (p : Int) < (n : Int) := by omega
      obtain ⟨y, hy⟩ : ∃ y, m[p]? = some y := ⟨_, List.getElem?_eq_getElem (by rw [← HN.out]; omega)⟩
      have hless := HCUT.out.2 p y hy
      obtain ⟨b, rfl, hbw, c0, c1, c2, c3⟩ := HCC.out wr hbel p y hy
      obtain ⟨a0, a1, a2⟩ := HE.out wr hbel
      have HS : Hid (∀ W, Below wr.heap.size wr W → Below wr.heap.size wr W ∧ (W.cell? ⟨B, 0, none⟩ = some (.int .u64 (xh : Nat)) ∧ W.cell? ⟨B, 1, none⟩ = some (.int .i64 xv) ∧ W.cell? ⟨B, 2, none⟩ = some (.int .i64 xp)) ∧
          (W.cell? ⟨b, off + p * 4, none⟩ = some (.int .u64 (y.e.h : Nat)) ∧ W.cell? ⟨b, off + p * 4 + 1, none⟩ = some (.int .i64 y.e.v) ∧ W.cell? ⟨b, off + p * 4 + 2, none⟩ = some (.int .i64 y.e.p))) := Lib.hid fun W hW => by
        obtain ⟨b', e', _, k0, k1, k2, -⟩ := HCC.out W (bj hbel hW) p y hy
        injection e' with e'
        injection e' with e'
        subst e'
        exact ⟨hW, HE.out W (bj hbel hW), k0, k1, k2⟩
      have H3 := Lib.hid (show ∀ W, Below wr.heap.size wr W → W.cell? ⟨b, off + p * 4 + 3, none⟩ = some (.int .i64 y.k) from fun W hW => (hW.cell (p := ⟨b, off + p * 4 + 3, none⟩) (Nat.lt_of_lt_of_le hbw hbel.size)).trans c3)
      have HL := fun W => less_ref y.e ⟨xh, xv, xp⟩ W
      have HY := Lib.hid hy
      clear hy hbw c3
      have HBEL := Lib.hid hbel
      by_cases hpc : p < c
      · rw [hless, decide_eq_true hpc] at HL
        have HLL := Lib.hid HL
        have HST := Lib.hid (hi_stay (m := m) (many := many) hpc)
        rw [← HST.out]
        obtain ⟨hh, hhh⟩ : ∃ hh, hiM m (max c p) many = hh := ⟨_, rfl⟩
        have HHH := Lib.hid hhh
        rw [hhh]
        clear hless HL hhh HST
        obtain ⟨⟨yh, yv, yp⟩, yk⟩ := y
        simp only at c0 c1 c2 HLL H3 HS
        go_wp2_with fail
        go_region_held3 (fun W => Below wr.heap.size wr W ∧ (W.cell? ⟨B, 0, none⟩ = some (.int .u64 (xh : Nat)) ∧ W.cell? ⟨B, 1, none⟩ = some (.int .i64 xv) ∧ W.cell? ⟨B, 2, none⟩ = some (.int .i64 xp)) ∧
            (W.cell? ⟨b, off + p * 4, none⟩ = some (.int .u64 (yh : Nat)) ∧ W.cell? ⟨b, off + p * 4 + 1, none⟩ = some (.int .i64 yv) ∧ W.cell? ⟨b, off + p * 4 + 2, none⟩ = some (.int .i64 yp)))
          (first | (with_reducible assumption) | ((with_reducible refine HS.out _ ?_); (first | (with_reducible assumption) | (with_reducible exact Below.refl _ _) | (with_reducible exact (Below.refl _ _).drew) | exact (bj (And.left (by with_reducible assumption)) ‹Below _ _ _›)); done) | fail)
          (first
          | (go_at_call 18; ((with_reducible refine (HLL.out _).mono ?_); rintro e w3 ⟨rfl, hb3⟩; have hB3 : Below wr.heap.size wr w3 := bj (And.left (by with_reducible assumption)) hb3))
          | fail)
        all_goals
          go_wp2
          go_roundw
          case rel => exact ⟨p, (p : Int) - 1, by omega, rfl, by go_num, by rw [HHH.out], bj HBEL.out hB3⟩
          case measure => simp [intOf] <;> omega
      · rw [hless, decide_eq_false hpc] at HL
        have HLL := Lib.hid HL
        have HST := Lib.hid (hi_step (m := m) (many := many) HY.out hpc)
        generalize hiM m (max c (p + 1)) many = hh at *
        clear hless HL
        obtain ⟨⟨yh, yv, yp⟩, yk⟩ := y
        simp only at c0 c1 c2 HLL H3 HS HST
        go_wp2_with fail
        go_region_held3 (fun W => Below wr.heap.size wr W ∧ (W.cell? ⟨B, 0, none⟩ = some (.int .u64 (xh : Nat)) ∧ W.cell? ⟨B, 1, none⟩ = some (.int .i64 xv) ∧ W.cell? ⟨B, 2, none⟩ = some (.int .i64 xp)) ∧
            (W.cell? ⟨b, off + p * 4, none⟩ = some (.int .u64 (yh : Nat)) ∧ W.cell? ⟨b, off + p * 4 + 1, none⟩ = some (.int .i64 yv) ∧ W.cell? ⟨b, off + p * 4 + 2, none⟩ = some (.int .i64 yp)))
          (first | (with_reducible assumption) | ((with_reducible refine HS.out _ ?_); (first | (with_reducible assumption) | (with_reducible exact Below.refl _ _) | (with_reducible exact (Below.refl _ _).drew) | exact (bj (And.left (by with_reducible assumption)) ‹Below _ _ _›)); done) | fail)
          (first
          | (go_at_call 18; ((with_reducible refine (HLL.out _).mono ?_); rintro e w3 ⟨rfl, hb3⟩; have hB3 : Below wr.heap.size wr w3 := bj (And.left (by with_reducible assumption)) hb3; have c33 := H3.out _ hB3))
          | fail)
        all_goals
          go_wp2
          go_roundw
          case rel => exact ⟨p, (p : Int) - 1, by omega, rfl, by go_num, by rw [HST.out], bj HBEL.out hB3⟩
          case measure => simp [intOf] <;> omega
    | zero =>
      obtain rfl : d = -1 := by omega
      obtain ⟨hh, hhh⟩ : ∃ hh, hiM m c many = hh := ⟨_, rfl⟩
      have HHH := Lib.hid hhh
      rw [hi_end, hhh]
      have H0' := Lib.hid (show loM m (min c 0) = 0 from by rw [show min c 0 = 0 by omega]; rfl)
      have HEnd := Lib.hid (show loM m (min c n) = loM m c by rw [HN.out]; exact lo_end HCUT.out.1)
      have HBW := Lib.hid hbel
      obtain ⟨wo, rfl⟩ : ∃ wo : World, wo = wr := ⟨_, rfl⟩
      clear hj hd hhh hbel
      go_wp2
      go_loopw [8, 11] (fun lo i wr => ∃ (k : Nat), k ≤ n ∧ i = .int .i64 k ∧ lo = .int .i64 (loM m (min c k)) ∧ Below wo.heap.size wo wr) (fun _ i _ => n - (intOf i).toNat)
      case atStart => exact ⟨0, Nat.zero_le _, rfl, by rw [H0'.out], Below.refl _ _⟩
      case round =>
        obtain ⟨p, hp, rfl, rfl, hbel0⟩ := hrel
        have hbel := bj HBW.out hbel0
        by_cases hlt : p < n
        · have s2 : (p : Int) < (n : Int) := by omega
          obtain ⟨y, hy⟩ : ∃ y, m[p]? = some y := ⟨_, List.getElem?_eq_getElem (by rw [← HN.out]; omega)⟩
          have hless := HCUT.out.2 p y hy
          obtain ⟨b, rfl, hbw, c0, c1, c2, c3⟩ := HCC.out wr hbel p y hy
          obtain ⟨a0, a1, a2⟩ := HE.out wr hbel
          have HS : Hid (∀ W, Below wr.heap.size wr W → Below wr.heap.size wr W ∧ (W.cell? ⟨B, 0, none⟩ = some (.int .u64 (xh : Nat)) ∧ W.cell? ⟨B, 1, none⟩ = some (.int .i64 xv) ∧ W.cell? ⟨B, 2, none⟩ = some (.int .i64 xp)) ∧
              (W.cell? ⟨b, off + p * 4, none⟩ = some (.int .u64 (y.e.h : Nat)) ∧ W.cell? ⟨b, off + p * 4 + 1, none⟩ = some (.int .i64 y.e.v) ∧ W.cell? ⟨b, off + p * 4 + 2, none⟩ = some (.int .i64 y.e.p))) := Lib.hid fun W hW => by
            obtain ⟨b', e', _, k0, k1, k2, -⟩ := HCC.out W (bj hbel hW) p y hy
            injection e' with e'
            injection e' with e'
            subst e'
            exact ⟨hW, HE.out W (bj hbel hW), k0, k1, k2⟩
          have H3 := Lib.hid (show ∀ W, Below wr.heap.size wr W → W.cell? ⟨b, off + p * 4 + 3, none⟩ = some (.int .i64 y.k) from fun W hW => (hW.cell (p := ⟨b, off + p * 4 + 3, none⟩) (Nat.lt_of_lt_of_le hbw hbel.size)).trans c3)
          have HL := fun W => less_ref y.e ⟨xh, xv, xp⟩ W
          have HY := Lib.hid hy
          have hwy := HW.out y (List.mem_of_getElem? hy)
          clear hy hbw c3 hbel
          have HBEL := Lib.hid hbel0
          clear hbel0
          by_cases hpc : p < c
          · rw [hless, decide_eq_true hpc] at HL
            have HLL := Lib.hid HL
            have HST := Lib.hid (lo_step (m := m) HY.out hpc)
            generalize loM m (min c p) = ll at *
            clear hless HL
            obtain ⟨⟨yh, yv, yp⟩, yk⟩ := y
            simp only at c0 c1 c2 HLL H3 HS HST hwy
            go_wp2_with fail
            go_region_held3 (fun W => Below wr.heap.size wr W ∧ (W.cell? ⟨B, 0, none⟩ = some (.int .u64 (xh : Nat)) ∧ W.cell? ⟨B, 1, none⟩ = some (.int .i64 xv) ∧ W.cell? ⟨B, 2, none⟩ = some (.int .i64 xp)) ∧
                (W.cell? ⟨b, off + p * 4, none⟩ = some (.int .u64 (yh : Nat)) ∧ W.cell? ⟨b, off + p * 4 + 1, none⟩ = some (.int .i64 yv) ∧ W.cell? ⟨b, off + p * 4 + 2, none⟩ = some (.int .i64 yp)))
              (first | (with_reducible assumption) | ((with_reducible refine HS.out _ ?_); (first | (with_reducible assumption) | (with_reducible exact Below.refl _ _) | (with_reducible exact (Below.refl _ _).drew) | exact (bj (And.left (by with_reducible assumption)) ‹Below _ _ _›)); done) | fail)
              (first
              | (go_at_call 18; ((with_reducible refine (HLL.out _).mono ?_); rintro e w3 ⟨rfl, hb3⟩; have hB3 : Below wr.heap.size wr w3 := bj (And.left (by with_reducible assumption)) hb3; have c33 := H3.out _ hB3))
              | fail)
            all_goals
              go_wp2
              go_roundw
              case rel => exact ⟨p + 1, by omega, by go_num, by rw [HST.out], bj HBEL.out hB3⟩
              case measure => simp [intOf]; omega
          · rw [hless, decide_eq_false hpc] at HL
            have HLL := Lib.hid HL
            have HST := Lib.hid (lo_stay (m := m) hpc)
            obtain ⟨ll, hll⟩ : ∃ ll, loM m (min c p) = ll := ⟨_, rfl⟩
            have HLO := Lib.hid (HST.out.trans hll)
            rw [hll]
            clear hless HL hll HST
            obtain ⟨⟨yh, yv, yp⟩, yk⟩ := y
            simp only at c0 c1 c2 HLL H3 HS hwy
            go_wp2_with fail
            go_region_held3 (fun W => Below wr.heap.size wr W ∧ (W.cell? ⟨B, 0, none⟩ = some (.int .u64 (xh : Nat)) ∧ W.cell? ⟨B, 1, none⟩ = some (.int .i64 xv) ∧ W.cell? ⟨B, 2, none⟩ = some (.int .i64 xp)) ∧
                (W.cell? ⟨b, off + p * 4, none⟩ = some (.int .u64 (yh : Nat)) ∧ W.cell? ⟨b, off + p * 4 + 1, none⟩ = some (.int .i64 yv) ∧ W.cell? ⟨b, off + p * 4 + 2, none⟩ = some (.int .i64 yp)))
              (first | (with_reducible assumption) | ((with_reducible refine HS.out _ ?_); (first | (with_reducible assumption) | (with_reducible exact Below.refl _ _) | (with_reducible exact (Below.refl _ _).drew) | exact (bj (And.left (by with_reducible assumption)) ‹Below _ _ _›)); done) | fail)
              (first
              | (go_at_call 18; ((with_reducible refine (HLL.out _).mono ?_); rintro e w3 ⟨rfl, hb3⟩; have hB3 : Below wr.heap.size wr w3 := bj (And.left (by with_reducible assumption)) hb3))
              | fail)
            all_goals
              go_wp2
              go_roundw
              case rel => exact ⟨p + 1, by omega, by go_num, by rw [HLO.out], bj HBEL.out hB3⟩
              case measure => simp [intOf]; omega
        · obtain rfl : p = n := by omega
          have s1 : ¬ (p : Int) < (p : Int) := by omega
          have s3 : decide (p < p) = false := decide_eq_false (by omega)
          obtain ⟨ll, hll⟩ : ∃ ll, loM m c = ll := ⟨_, rfl⟩
          have HLL := Lib.hid hll
          rw [HEnd.out, hll]
          clear hlt hll
          go_wp2
          go_ret2
          exact ⟨by rw [HLL.out, HHH.out]; rfl, bj HB1.out hbel⟩

/-- Of entries that are sorted: both answers. -/
structure NarIs (l : List EntS) (x : EntS) (lo hi : Nat) : Prop where
  own : narM x (midsL l) (l.length : Nat) = ((lo : Int), (hi : Int))
  ref : ∃ c, CutM x (midsL l) c ∧ loM (midsL l) c = (lo : Int) ∧ hiM (midsL l) c (l.length : Nat) = (hi : Int)
  at_least : lo ≤ l.countP (fun y => lessE y x)
  at_most : l.countP (fun y => lessE y x) ≤ hi
  top : hi ≤ l.length
  gap : hi ≤ lo + 7
theorem nar_is {l : List EntS} (h : RiseE l) (hn : l.length ≤ 1000000) (x : EntS) : ∃ lo hi, NarIs l x lo hi := by
  obtain ⟨lo, hi, h1, h2, h3, h4, h5, h6⟩ := mids_lo_hi (e := x) h
  have hc := mids_cut (e := x) h
  refine ⟨lo, hi, ?_, ⟨_, hc, h1, h2⟩, h3, h4, h5, h6⟩
  have hm : max ((l.length : Nat) : Int) 0 = (l.length : Nat) := by omega
  unfold narM
  rw [hm, scan_cut hc (fun y hy => (mids_small hn y hy).1)]
  have e : (if cutN l.length (l.countP fun y => lessE y x) = 0 then 0 else loM (midsL l) (cutN l.length (l.countP fun y => lessE y x))) = (lo : Int) := by
    rw [← h1]
    split
    · rename_i h0
      rw [h0]
      rfl
    · rfl
  rw [e, h2]
  exact withinM_id (by simp only; omega) (by simp only; omega) (by simp only; omega)
theorem NarIs.run {l : List EntS} {x : EntS} {lo hi : Nat} (h : NarIs l x lo hi) {w : World} {v : Value} (hm : MidsIn w v (midsL l)) (hn : l.length ≤ 1000000) :
    Calls Try.prog 13 #[v, .int .i64 (l.length : Nat), entB x] w (NarEnd ((lo : Int), (hi : Int)) w) := by
  rw [← h.own]
  have := midsTo_length l l.length
  exact narrow_any v _ _ x w hm (by unfold midsL; omega)
theorem NarIs.run_ref {l : List EntS} {x : EntS} {lo hi : Nat} (h : NarIs l x lo hi) {w : World} {v : Value} (hm : MidsIn w v (midsL l)) (hn : l.length ≤ 1000000) :
    Calls Try.prog 14 #[v, .int .i64 (l.length : Nat), entB x] w (NarEnd ((lo : Int), (hi : Int)) w) := by
  obtain ⟨c, h1, h2, h3⟩ := h.ref
  rw [← h2, ← h3]
  have := midsTo_length l l.length
  exact narrow_ref v _ c _ x w hm (by unfold midsL; omega) h1 (fun y hy => (mids_small hn y hy).1)
end Go.Proofs.Ytipimfimibnjiaa

/- 'MidsBetween': the walk. -/
import Derived.Test.YtipimfimibnjiaaMdEx
import Derived.Test.YtipimfimibnjiaaMdNarrowRef
import Derived.BigQuiet
import Derived.Deep.RegionHeld3
namespace Go.Proofs.Ytipimfimibnjiaa
open Go.RowKit Go.Shelf
set_option linter.unusedVariables false
attribute [local go_sem ↓] Go.wp_at_zero Go.wp_at_succ

namespace midsBetween
/-- A list, and one more if it rises. -/
def upOne (s : List EntS) (x : EntS) : Bool := match s.getLast? with | none => true | some y => lessE y x
def upTo (l : List EntS) : Nat → List EntS
  | 0 => []
  | k + 1 => match l[k]? with | some x => if upOne (upTo l k) x = true then upTo l k ++ [x] else upTo l k | none => upTo l k
theorem up_yes {l : List EntS} {k : Nat} {x : EntS} (h : l[k]? = some x) (hu : upOne (upTo l k) x = true) : upTo l (k + 1) = upTo l k ++ [x] := by
  rw [upTo, h]
  simp only [hu, if_true]
theorem up_no {l : List EntS} {k : Nat} {x : EntS} (h : l[k]? = some x) (hu : upOne (upTo l k) x = false) : upTo l (k + 1) = upTo l k := by
  rw [upTo, h]
  simp only [hu, Bool.false_eq_true, if_false]
theorem up_length (l : List EntS) : ∀ k, (upTo l k).length ≤ k
  | 0 => Nat.le_refl _
  | k + 1 => by
    have := up_length l k
    rw [upTo]
    split
    · split
      · rw [List.length_append]; simp; omega
      · omega
    · omega
theorem rise_snoc {s : List EntS} {x : EntS} (h : RiseE s) (hu : upOne s x = true) : RiseE (s ++ [x]) := by
  unfold RiseE at *
  refine List.pairwise_append.2 ⟨h, List.pairwise_singleton _ _, fun a ha b hb => ?_⟩
  rw [List.mem_singleton.1 hb]
  unfold upOne at hu
  cases hg : s.getLast? with
  | none =>
    rw [List.getLast?_eq_none_iff.1 hg] at ha
    cases ha
  | some y =>
    rw [hg] at hu
    simp only at hu
    obtain ⟨t, rfl⟩ := List.getLast?_eq_some_iff.1 hg
    rcases List.mem_append.1 ha with c | c
    · exact lessE_trans ((List.pairwise_append.1 h).2.2 a c y (List.mem_singleton.2 rfl)) hu
    · rw [List.mem_singleton.1 c]; exact hu
theorem up_rise (l : List EntS) : ∀ k, RiseE (upTo l k)
  | 0 => List.Pairwise.nil
  | k + 1 => by
    have h := up_rise l k
    rw [upTo]
    split
    · split
      · rename_i hu
        exact rise_snoc h hu
      · exact h
    · exact h
theorem up_nil {s : List EntS} {x : EntS} (h : s.length = 0) : upOne s x = true := by
  rw [List.length_eq_zero_iff.1 h]
  rfl
theorem up_last {s : List EntS} {x y : EntS} {q : Nat} (hq : s.length = q + 1) (hy : s[q]? = some y) : upOne s x = lessE y x := by
  unfold upOne
  rw [List.getLast?_eq_getElem?, hq, Nat.add_sub_cancel, hy]
theorem ent_more {w : World} {base : Nat} {v : Value} {s : List EntS} (x : EntS) (hrow : EntRow w base v s) (hk : s.length ≤ 10000) (hb : base ≤ w.heap.size) (ty : TypeId) :
    ∃ w' u, (Builtin.append_ #[22, 22] ty #[v, .slice (some ⟨w.heap.size, 0, none⟩) 1 1]).run Try.prog (w.alloc (.cells #[.int .u64 (x.h : Nat), .int .i64 x.v, .int .i64 x.p] 29)) = .ok u w' ∧
      (∃ A c, u = .slice A (s ++ [x]).length c ∧ EntRow w' base (.slice A (s ++ [x]).length c) (s ++ [x])) ∧ Below base w w' := by
  have h := ents_append (EntRow.alloc hrow (.cells #[.int .u64 (x.h : Nat), .int .i64 x.v, .int .i64 x.p] 29)) (ent_one w x) (by simp; omega) (by simp; omega) ty
  rw [show s.length + [x].length = (s ++ [x]).length by rw [List.length_append]] at h
  obtain ⟨A, c, w', e1, e2, e3, -⟩ := h
  exact ⟨w', _, e1, ⟨A, c, rfl, e2⟩, ((Below.refl base w).alloc hb _).trans (grown_below e3 (by simp; omega) (EntRow.block hrow))⟩
theorem count_take {s : List EntS} {x y : EntS} {k : Nat} (h : s[k]? = some y) : (s.take (k + 1)).countP (fun z => lessE z x) = (s.take k).countP (fun z => lessE z x) + if lessE y x = true then 1 else 0 := by
  rw [ent_take s k y h, List.countP_append, List.countP_singleton]

set_option maxHeartbeats 4000000 in
set_option maxRecDepth 100000 in
theorem walk_ (w : World) (v : Value) (l : List EntS) (x : EntS) (hl : EntsIn w v l) :
    Calls Try.prog 5 #[v, entB x] w (MidEnd w) := by
  have HMI := Lib.hid fun W => middle_true W
  have hb1 := (Below.refl w.heap.size w).alloc (Nat.le_refl _) (.cells #[.int .u64 (x.h : Nat), .int .i64 x.v, .int .i64 x.p] 29)
  have E1 := Blok.new w 29 #[.int .u64 (x.h : Nat), .int .i64 x.v, .int .i64 x.p]
  obtain ⟨w1, hw1⟩ : ∃ w1, w.alloc (.cells #[.int .u64 (x.h : Nat), .int .i64 x.v, .int .i64 x.p] 29) = w1 := ⟨_, rfl⟩
  obtain ⟨B, hB⟩ : ∃ B, w.heap.size = B := ⟨_, rfl⟩
  rw [hw1] at hb1 E1
  rw [hB] at E1
  have HB1 := Lib.hid hb1
  have HE := Lib.hid (show ∀ W, Below w1.heap.size w1 W → W.cell? ⟨B, 0, none⟩ = some (.int .u64 (x.h : Nat)) ∧ W.cell? ⟨B, 1, none⟩ = some (.int .i64 x.v) ∧ W.cell? ⟨B, 2, none⟩ = some (.int .i64 x.p) from fun W hW =>
    ⟨(hW.cell (p := ⟨B, 0, none⟩) E1.lt).trans (E1.cell 0), (hW.cell (p := ⟨B, 1, none⟩) E1.lt).trans (E1.cell 1), (hW.cell (p := ⟨B, 2, none⟩) E1.lt).trans (E1.cell 2)⟩)
  obtain ⟨A0, off, cap, hv, -, hcell⟩ := (hl.below hb1 (Nat.le_refl _)).form
  have hv0 := hl.form
  by_cases hn : l.length ≤ 150
  case neg =>
    subst hv
    have t1 : decide ((150 : Int) < (l.length : Int)) = true := decide_eq_true (by omega)
    have t2 : (150 : Int) < (l.length : Int) := by omega
    have t3 : 150 < l.length := by omega
    clear hl hn E1 hb1 hv0 hcell
    generalize l.length = n at *
    obtain ⟨xh, xv, xp⟩ := x
    go_enter Try.func5, Try.ntmps5
    go_wp2_with fail
    refine (HMI.out w1).mono ?_
    rintro e w3 ⟨rfl, hb3⟩
    go_wp2
    go_ret
    exact ⟨rfl, bj HB1.out hb3⟩
  subst hv
  have HL := Lib.hid (show ∀ W, Below w1.heap.size w1 W → ∀ i y, l[i]? = some y → ∃ b, A0 = some ⟨b, off, none⟩ ∧ W.cell? ⟨b, off + i * 3, none⟩ = some (.int .u64 (y.h : Nat)) ∧ W.cell? ⟨b, off + i * 3 + 1, none⟩ = some (.int .i64 y.v) ∧ W.cell? ⟨b, off + i * 3 + 2, none⟩ = some (.int .i64 y.p) from fun W hW i y hy => by
    obtain ⟨b, e, hb, c0, c1, c2⟩ := hcell i y hy
    exact ⟨b, e, (hW.cell (p := ⟨b, off + i * 3, none⟩) hb).trans c0, (hW.cell (p := ⟨b, off + i * 3 + 1, none⟩) hb).trans c1, (hW.cell (p := ⟨b, off + i * 3 + 2, none⟩) hb).trans c2⟩)
  have t1 : decide ((150 : Int) < (l.length : Int)) = false := decide_eq_false (by omega)
  have t2 : ¬ (150 : Int) < (l.length : Int) := by omega
  have t3 : decide (150 < l.length) = false := decide_eq_false (by omega)
  obtain ⟨n0, hn0⟩ : ∃ n0, n0 = l.length := ⟨_, rfl⟩
  have HN0 := Lib.hid hn0
  rw [← hn0] at hn t1 t2 t3 ⊢
  clear hl hn0 E1 hb1 hv0 hcell
  obtain ⟨xh, xv, xp⟩ := x
  simp only at hw1 HE
  go_enter Try.func5, Try.ntmps5
  go_wp2
  go_loopw [5, 6] (fun u i wr => ∃ k : Nat, k ≤ n0 ∧ i = .int .i64 k ∧ (∃ A c, u = .slice A (upTo l k).length c ∧ EntRow wr w1.heap.size (.slice A (upTo l k).length c) (upTo l k)) ∧ Below w1.heap.size w1 wr) (fun _ i _ => n0 - (intOf i).toNat)
  case atStart => exact ⟨0, Nat.zero_le _, rfl, ⟨none, 0, rfl, EntRow.nil _ _⟩, Below.refl _ _⟩
  case round =>
    obtain ⟨k, hk, rfl, ⟨A1, c1, rfl, hrow⟩, hbel⟩ := hrel
    obtain ⟨wo, rfl⟩ : ∃ wo : World, wo = wr := ⟨_, rfl⟩
    have HROW := Lib.hid hrow
    have HBEL := Lib.hid hbel
    have hul := up_length l k
    by_cases hlt : k < n0
    · have s1 : (k : Int) < (n0 : Int) := by omega
      obtain ⟨y, hy⟩ : ∃ y, l[k]? = some y := ⟨_, List.getElem?_eq_getElem (by rw [← HN0.out]; omega)⟩
      have HYES := Lib.hid (up_yes (l := l) (k := k) (x := y) hy)
      have HNO := Lib.hid (up_no (l := l) (k := k) (x := y) hy)
      have HNIL := Lib.hid (up_nil (s := upTo l k) (x := y))
      have HLAST := Lib.hid (fun z q => up_last (s := upTo l k) (x := y) (y := z) (q := q))
      have HLY := Lib.hid (show ∀ W, Below wo.heap.size wo W → ∃ b, A0 = some ⟨b, off, none⟩ ∧ W.cell? ⟨b, off + k * 3, none⟩ = some (.int .u64 (y.h : Nat)) ∧ W.cell? ⟨b, off + k * 3 + 1, none⟩ = some (.int .i64 y.v) ∧ W.cell? ⟨b, off + k * 3 + 2, none⟩ = some (.int .i64 y.p) from fun W hW => HL.out W (bj HBEL.out hW) k y hy)
      generalize upTo l k = L at *
      obtain ⟨m, hm⟩ : ∃ m, m = L.length := ⟨_, rfl⟩
      have HM := Lib.hid hm
      rw [← hm] at hul ⊢
      clear hy hrow hbel hm
      go_upto_region 7 with fail
      go_cut [39] from 22 to 46 (fun u wx => u = .bool (upOne L y) ∧ Below wo.heap.size wo wx)
      case first =>
        by_cases h0 : m = 0
        · have hq := Lib.hid (HNIL.out (by rw [← HM.out]; exact h0))
          subst h0
          have t4 : (((0 : Nat) : Int) == 0) = true := rfl
          go_wp2_with fail
          go_quiet (fail)
          go_wp2
          go_meet
          exact ⟨by rw [hq.out], below_drewN (Below.refl _ _) _⟩
        · obtain ⟨q, hq⟩ : ∃ q, m = q + 1 := ⟨m - 1, by omega⟩
          have t4 : ((m : Int) == 0) = false := beq_eq_false_iff_ne.2 (by omega)
          have t6 : (q : Int) < (m : Int) := by omega
          have t8 : IntKind.i64.wrap ((m : Int) - 1) = (q : Int) := by rw [show (m : Int) - 1 = (q : Int) by omega]; exact IntWalk.i64_in _ ⟨by omega, by omega⟩
          have t9 : (0 : Int) ≤ (q : Int) := by omega
          have t7 : q < m := by omega
          obtain ⟨z, hz⟩ : ∃ z, L[q]? = some z := ⟨_, List.getElem?_eq_getElem (by rw [← HM.out]; omega)⟩
          have HU := Lib.hid (HLAST.out z q (by rw [← HM.out]; exact hq) hz)
          have HINS := Lib.hid (show ∀ W, Below wo.heap.size wo W → ∃ A off cap, Value.slice A1 m c1 = .slice A L.length cap ∧ L.length ≤ maxLen ∧ ∀ i y, L[i]? = some y → ∃ b, A = some ⟨b, off, none⟩ ∧ b < W.heap.size ∧ W.cell? ⟨b, off + i * 3, none⟩ = some (.int .u64 (y.h : Nat)) ∧ W.cell? ⟨b, off + i * 3 + 1, none⟩ = some (.int .i64 y.v) ∧ W.cell? ⟨b, off + i * 3 + 2, none⟩ = some (.int .i64 y.p) from fun W hW => by
            rw [HM.out]
            exact ((EntRow.in_ HROW.out).below hW (Nat.le_refl _)).form)
          obtain ⟨A', o', cp, e', -, hcl⟩ := HINS.out wo (Below.refl _ _)
          obtain ⟨rfl, -, rfl⟩ := Value.slice.inj e'
          obtain ⟨ob, rfl, hob, g0, g1, g2⟩ := hcl q z hz
          obtain ⟨bk, rfl, a0, a1, a2⟩ := HLY.out wo (Below.refl _ _)
          have HS : Hid (∀ W, Below wo.heap.size wo W → Below wo.heap.size wo W ∧ (W.cell? ⟨bk, off + k * 3, none⟩ = some (.int .u64 (y.h : Nat)) ∧ W.cell? ⟨bk, off + k * 3 + 1, none⟩ = some (.int .i64 y.v) ∧ W.cell? ⟨bk, off + k * 3 + 2, none⟩ = some (.int .i64 y.p)) ∧
              (W.cell? ⟨ob, o' + q * 3, none⟩ = some (.int .u64 (z.h : Nat)) ∧ W.cell? ⟨ob, o' + q * 3 + 1, none⟩ = some (.int .i64 z.v) ∧ W.cell? ⟨ob, o' + q * 3 + 2, none⟩ = some (.int .i64 z.p))) := Lib.hid fun W hW => by
            obtain ⟨b', e', k0, k1, k2⟩ := HLY.out W hW
            injection e' with e'
            injection e' with e'
            subst e'
            exact ⟨hW, ⟨k0, k1, k2⟩, (hW.cell (p := ⟨ob, o' + q * 3, none⟩) hob).trans g0, (hW.cell (p := ⟨ob, o' + q * 3 + 1, none⟩) hob).trans g1, (hW.cell (p := ⟨ob, o' + q * 3 + 2, none⟩) hob).trans g2⟩
          have HLL := Lib.hid fun W => eless_any z y W
          clear hcl e' hz hob h0 hq HINS HLAST HNIL HROW HYES HNO
          generalize lessE z y = ans at *
          obtain ⟨yh, yv, yp⟩ := y
          obtain ⟨zh, zv, zp⟩ := z
          simp only at a0 a1 a2 g0 g1 g2 HS HLL
          go_wp2_with fail
          go_region_held3 (fun W => Below wo.heap.size wo W ∧ (W.cell? ⟨bk, off + k * 3, none⟩ = some (.int .u64 (yh : Nat)) ∧ W.cell? ⟨bk, off + k * 3 + 1, none⟩ = some (.int .i64 yv) ∧ W.cell? ⟨bk, off + k * 3 + 2, none⟩ = some (.int .i64 yp)) ∧
              (W.cell? ⟨ob, o' + q * 3, none⟩ = some (.int .u64 (zh : Nat)) ∧ W.cell? ⟨ob, o' + q * 3 + 1, none⟩ = some (.int .i64 zv) ∧ W.cell? ⟨ob, o' + q * 3 + 2, none⟩ = some (.int .i64 zp)))
            (first | (with_reducible assumption) | ((with_reducible refine HS.out _ ?_); (first | (with_reducible assumption) | (with_reducible exact Below.refl _ _) | (with_reducible exact (Below.refl _ _).drew) | exact (bj (And.left (by with_reducible assumption)) ‹Below _ _ _›)); done) | fail)
            (first
            | (go_at_call 15; ((with_reducible refine (HLL.out _).mono ?_); rintro e w3 ⟨rfl, hb3⟩; have hB3 : Below wo.heap.size wo w3 := bj (And.left (by with_reducible assumption)) hb3))
            | fail)
          all_goals
            go_wp2
            go_meet
            exact ⟨by rw [HU.out], hB3⟩
      case rest =>
        obtain ⟨rfl, hbc⟩ := hcut
        have HBC := Lib.hid (bj HBEL.out hbc)
        have hrow2 := EntRow.below HROW.out hbc (Nat.le_refl _)
        have HROW2 := Lib.hid hrow2
        obtain ⟨bk, rfl, a0, a1, a2⟩ := HLY.out wc hbc
        cases hu : upOne L y
        · have HEQ := Lib.hid (HNO.out hu)
          clear hu hrow2 hbc
          go_wp2
          go_roundw
          case rel => exact ⟨k + 1, by omega, by go_num, by rw [HEQ.out, ← HM.out]; exact ⟨A1, c1, rfl, by rw [HM.out]; exact HROW2.out⟩, HBC.out⟩
          case measure => simp [intOf]; omega
        · have HEQ := Lib.hid (HYES.out hu)
          obtain ⟨w', u, e1, e2, e3⟩ := ent_more y hrow2 (by rw [← HM.out]; omega) HBC.out.size 22
          rw [← HM.out] at e1
          have HE1 := Lib.hid e1
          have HE2 := Lib.hid e2
          have HE3 := Lib.hid (HBC.out.trans e3)
          clear hrow2 hbc e1 e2 e3
          obtain ⟨yh, yv, yp⟩ := y
          simp only at a0 a1 a2 HE1
          go_wp2_with (first | (at_builtin; refine wpList_append_two rfl _ _ rfl rfl rfl HE1.out ?_) | fail)
          go_roundw
          case rel => exact ⟨k + 1, by omega, by go_num, by rw [HEQ.out]; exact HE2.out, HE3.out⟩
          case measure => simp [intOf]; omega
    · obtain rfl : k = n0 := by omega
      have s1 : ¬ (k : Int) < (k : Int) := by omega
      have s2 : decide (k < k) = false := decide_eq_false (by omega)
      have HR := Lib.hid (up_rise l k)
      generalize upTo l k = s at *
      have hs150 : s.length ≤ 150 := by omega
      obtain ⟨n, hnn⟩ : ∃ n, n = s.length := ⟨_, rfl⟩
      have HN := Lib.hid hnn
      have HIN := Lib.hid (EntRow.in_ hrow)
      have HM := Lib.hid (mmake_any _ _ wo HIN.out (by omega))
      rw [← hnn] at hs150 HM HIN ⊢
      clear hrow hbel hul hlt hk hnn HROW HL
      go_wp2_with fail
      refine HM.out.mono ?_
      rintro e w3 ⟨A3, c3, rfl, hrow, hb3⟩
      have HB3 := Lib.hid (bj HBEL.out hb3)
      have HMIN := Lib.hid (show ∀ W, Below w3.heap.size w3 W → MidsIn W (.slice A3 (midsL s).length c3) (midsL s) from fun W hW => (MidRow.in_ hrow).below hW (Nat.le_refl _))
      have HF := Lib.hid (show ∀ W, Below w3.heap.size w3 W → ∃ A off cap, Value.slice A1 n c1 = .slice A s.length cap ∧ s.length ≤ maxLen ∧ ∀ i y, s[i]? = some y → ∃ b, A = some ⟨b, off, none⟩ ∧ b < W.heap.size ∧ W.cell? ⟨b, off + i * 3, none⟩ = some (.int .u64 (y.h : Nat)) ∧ W.cell? ⟨b, off + i * 3 + 1, none⟩ = some (.int .i64 y.v) ∧ W.cell? ⟨b, off + i * 3 + 2, none⟩ = some (.int .i64 y.p) from fun W hW =>
        (HIN.out.below (bj hb3 hW) (Nat.le_refl _)).form)
      have HNA := Lib.hid (show ∀ y : EntS, ∃ lo hi : Nat, (lo ≤ s.countP (fun z => lessE z y) ∧ s.countP (fun z => lessE z y) ≤ hi ∧ hi ≤ n ∧ hi ≤ lo + 7) ∧ ∀ W, Below w3.heap.size w3 W →
          Calls Try.prog 13 #[.slice A3 (midsL s).length c3, .int .i64 (n : Nat), entB y] W (NarEnd ((lo : Int), (hi : Int)) W) from fun y => by
        have hs : s.length ≤ 1000000 := by rw [← HN.out]; omega
        obtain ⟨lo, hi, h⟩ := nar_is HR.out hs y
        have h3 := h.top
        rw [← HN.out] at h3
        refine ⟨lo, hi, ⟨h.at_least, h.at_most, h3, h.gap⟩, fun W hW => ?_⟩
        rw [HN.out]
        exact h.run (HMIN.out W hW) hs)
      clear hrow hb3 HM HIN HMIN HR
      generalize (midsL s).length = ml at *
      go_wp2
      go_loopw [8] (fun i wr => ∃ (k : Nat) (d : Int), k ≤ n + 1 ∧ d = (k : Int) - 1 ∧ i = .int .i64 d ∧ Below w3.heap.size w3 wr) (fun i _ => (n : Int).toNat + 1 - (intOf i + 1).toNat)
      case atStart => exact ⟨0, -1, by omega, rfl, rfl, Below.refl _ _⟩
      case round =>
        obtain ⟨j, d, hj, hd, rfl, hbel⟩ := hrel
        have hbw1 : Below w1.heap.size w1 wr := bj HB3.out hbel
        obtain ⟨a0, a1, a2⟩ := HE.out wr hbw1
        obtain ⟨wp, rfl⟩ : ∃ wp : World, wp = wr := ⟨_, rfl⟩
        by_cases hlt : j < n + 1
        · have s1 : d < (n : Int) := by omega
          have HBEL2 := Lib.hid hbel
          have hd100 : -1 ≤ d ∧ d ≤ 150 := by omega
          have s4 : IntKind.i64.wrap (d + 1) = d + 1 := IntWalk.i64_in _ ⟨by omega, by omega⟩
          cases j
          case' zero =>
            have s2 : ¬ (0 : Int) ≤ d := by omega
            have s3 : decide ((0 : Int) ≤ d) = false := decide_eq_false s2
            obtain ⟨y, hy⟩ : ∃ y : EntS, y = ⟨xh, xv, xp⟩ := ⟨_, rfl⟩
            have HB5 := Lib.hid (hbel.alloc hbel.size (.cells #[.int .u64 (xh : Nat), .int .i64 xv, .int .i64 xp] 29))
            have HE5 := Lib.hid (Blok.new wp 29 #[.int .u64 (xh : Nat), .int .i64 xv, .int .i64 xp])
            have HNJ := Lib.hid (show ∃ j', j' ≤ n + 1 ∧ d + 1 = (j' : Int) - 1 from ⟨1, by omega, by omega⟩)
            obtain ⟨lo, hi, hcnt, hrun⟩ := HNA.out ⟨xh, xv, xp⟩
            have HRUN := Lib.hid hrun
            have HCNT := Lib.hid hcnt
            have hlo9 : lo ≤ n := by omega
            have hhi9 : hi ≤ n := hcnt.2.2.1
            clear hrun hcnt hbel hbw1 hlt hj hd hy y
            go_wp2
            obtain ⟨yh, hyh⟩ : ∃ yh, yh = xh := ⟨_, rfl⟩
            obtain ⟨yv, hyv⟩ : ∃ yv, yv = xv := ⟨_, rfl⟩
            obtain ⟨yp, hyp⟩ : ∃ yp, yp = xp := ⟨_, rfl⟩
            rw [← hyh, ← hyv, ← hyp] at HB5 HE5 HRUN HCNT ⊢
            have HYX := Lib.hid (And.intro hyh (And.intro hyv hyp))
            clear hyh hyv hyp
          case' succ p =>
            obtain rfl : d = (p : Int) := by omega
            have s2 : (0 : Int) ≤ (p : Int) := by omega
            have s3 : p < n := by omega
            obtain ⟨y, hy⟩ : ∃ y, s[p]? = some y := ⟨_, List.getElem?_eq_getElem (by rw [← HN.out]; omega)⟩
            have E5 := Blok.new wp 29 #[.int .u64 (xh : Nat), .int .i64 xv, .int .i64 xp]
            obtain ⟨A', o', cp, e', -, hcl⟩ := HF.out _ (hbel.alloc hbel.size (.cells #[.int .u64 (xh : Nat), .int .i64 xv, .int .i64 xp] 29))
            obtain ⟨rfl, -, rfl⟩ := Value.slice.inj e'
            obtain ⟨ob, rfl, hob, g0, g1, g2⟩ := hcl p y hy
            have HNJ := Lib.hid (show ∃ j', j' ≤ n + 1 ∧ (p : Int) + 1 = (j' : Int) - 1 from ⟨p + 2, by omega, by omega⟩)
            obtain ⟨lo, hi, hcnt, hrun⟩ := HNA.out y
            have HRUN := Lib.hid hrun
            have HCNT := Lib.hid hcnt
            have hlo9 : lo ≤ n := by omega
            have hhi9 : hi ≤ n := hcnt.2.2.1
            have HB5 := Lib.hid (hbel.alloc hbel.size (.cells #[.int .u64 (y.h : Nat), .int .i64 y.v, .int .i64 y.p] 29))
            have HE5 := Lib.hid (Blok.new wp 29 #[.int .u64 (y.h : Nat), .int .i64 y.v, .int .i64 y.p])
            have k0 := E5.cell 0
            have k1 := E5.cell 1
            have k2 := E5.cell 2
            have f0 := E5.frozen 0
            have f1 := E5.frozen 1
            have f2 := E5.frozen 2
            clear hrun hcnt hbel hbw1 E5 hcl e' hy hlt hj hd
            obtain ⟨yh, yv, yp⟩ := y
            simp only at g0 g1 g2 HRUN HB5 HE5 HCNT
            go_wp2
            clear k0 k1 k2 f0 f1 f2 g0 g1 g2 hob
            obtain ⟨A1, hA1⟩ : ∃ A1 : Option Addr, A1 = some ⟨ob, o', none⟩ := ⟨_, rfl⟩
            rw [← hA1] at HF ⊢
            have HYX := Lib.hid (And.intro hA1 True.intro)
            clear hA1
          all_goals
            obtain ⟨wx, hwx⟩ : ∃ wx, wp.alloc (.cells #[.int .u64 (yh : Nat), .int .i64 yv, .int .i64 yp] 29) = wx := ⟨_, rfl⟩
            obtain ⟨g, hg⟩ : ∃ g, wp.heap.size = g := ⟨_, rfl⟩
            rw [hwx] at HB5 HE5 ⊢
            rw [hg] at HE5 ⊢
            clear hwx hg a0 a1 a2
            go_loopw [10, 11] (fun u i wr => ∃ q : Nat, q ≤ n ∧ i = .int .i64 q ∧ u = .int .i64 ((s.take q).countP (fun z => lessE z ⟨yh, yv, yp⟩) : Nat) ∧ Below wx.heap.size wx wr) (fun _ i _ => n - (intOf i).toNat)
            case atStart => exact ⟨0, Nat.zero_le _, rfl, rfl, Below.refl _ _⟩
            case round =>
              obtain ⟨q, hq, rfl, rfl, hbel3⟩ := hrel
              obtain ⟨wl, rfl⟩ : ∃ wl : World, wl = wr := ⟨_, rfl⟩
              have E6 := (HE5.out).touch (Touch.of_below hbel3) (by simp)
              have k0 := E6.cell 0
              have k1 := E6.cell 1
              have k2 := E6.cell 2
              have hgl := E6.lt
              have HB6 := Lib.hid (bj HB5.out hbel3)
              have HBEL3 := Lib.hid hbel3
              have hcq : (s.take q).countP (fun z => lessE z ⟨yh, yv, yp⟩) ≤ 150 := by
                have h1 := List.countP_le_length (p := fun z => lessE z ⟨yh, yv, yp⟩) (l := s.take q)
                rw [List.length_take] at h1
                omega
              by_cases hqn : q < n
              · have u1 : (q : Int) < (n : Int) := by omega
                have u2 : (0 : Int) ≤ (q : Int) := by omega
                obtain ⟨z, hz⟩ : ∃ z, s[q]? = some z := ⟨_, List.getElem?_eq_getElem (by rw [← HN.out]; omega)⟩
                have HCT := Lib.hid (count_take (x := ⟨yh, yv, yp⟩) hz)
                generalize (s.take q).countP (fun z => lessE z ⟨yh, yv, yp⟩) = cq at *
                obtain ⟨A', o', cp, e', -, hcl⟩ := HF.out _ HB6.out
                obtain ⟨rfl, -, rfl⟩ := Value.slice.inj e'
                obtain ⟨ob, rfl, hob, g0, g1, g2⟩ := hcl q z hz
                have HS : Hid (∀ W, Below wl.heap.size wl W → Below wl.heap.size wl W ∧ (W.cell? ⟨g, 0, none⟩ = some (.int .u64 (yh : Nat)) ∧ W.cell? ⟨g, 1, none⟩ = some (.int .i64 yv) ∧ W.cell? ⟨g, 2, none⟩ = some (.int .i64 yp)) ∧
                    (W.cell? ⟨ob, o' + q * 3, none⟩ = some (.int .u64 (z.h : Nat)) ∧ W.cell? ⟨ob, o' + q * 3 + 1, none⟩ = some (.int .i64 z.v) ∧ W.cell? ⟨ob, o' + q * 3 + 2, none⟩ = some (.int .i64 z.p))) := Lib.hid fun W hW =>
                  ⟨hW, ⟨(hW.cell (p := ⟨g, 0, none⟩) hgl).trans k0, (hW.cell (p := ⟨g, 1, none⟩) hgl).trans k1, (hW.cell (p := ⟨g, 2, none⟩) hgl).trans k2⟩,
                    (hW.cell (p := ⟨ob, o' + q * 3, none⟩) hob).trans g0, (hW.cell (p := ⟨ob, o' + q * 3 + 1, none⟩) hob).trans g1, (hW.cell (p := ⟨ob, o' + q * 3 + 2, none⟩) hob).trans g2⟩
                have HL2 := fun W => eless_any z ⟨yh, yv, yp⟩ W
                clear hcl e' hz hob E6 hbel3 hgl HF
                cases o : lessE z ⟨yh, yv, yp⟩
                all_goals
                  rw [o] at HL2
                  have HLL := Lib.hid HL2
                  have HCQ := Lib.hid (HCT.out)
                  rw [o] at HCQ
                  clear HL2 o HCT
                  obtain ⟨zh, zv, zp⟩ := z
                  simp only at g0 g1 g2 HS HLL
                  go_wp2_with fail
                  go_region_held3 (fun W => Below wl.heap.size wl W ∧ (W.cell? ⟨g, 0, none⟩ = some (.int .u64 (yh : Nat)) ∧ W.cell? ⟨g, 1, none⟩ = some (.int .i64 yv) ∧ W.cell? ⟨g, 2, none⟩ = some (.int .i64 yp)) ∧
                      (W.cell? ⟨ob, o' + q * 3, none⟩ = some (.int .u64 (zh : Nat)) ∧ W.cell? ⟨ob, o' + q * 3 + 1, none⟩ = some (.int .i64 zv) ∧ W.cell? ⟨ob, o' + q * 3 + 2, none⟩ = some (.int .i64 zp)))
                    (first | (with_reducible assumption) | ((with_reducible refine HS.out _ ?_); (first | (with_reducible assumption) | (with_reducible exact Below.refl _ _) | (with_reducible exact (Below.refl _ _).drew) | exact (bj (And.left (by with_reducible assumption)) ‹Below _ _ _›)); done) | fail)
                    (first
                    | (go_at_call 15; ((with_reducible refine (HLL.out _).mono ?_); rintro e w4 ⟨rfl, hb4⟩; have hB4 : Below wl.heap.size wl w4 := bj (And.left (by with_reducible assumption)) hb4))
                    | fail)
                  all_goals
                    go_wp2
                    go_roundw
                    case rel => exact ⟨q + 1, by omega, by go_num, by rw [HCQ.out]; simp, bj HBEL3.out hB4⟩
                    case measure => simp [intOf]; omega
              · obtain rfl : q = n := by omega
                have u1 : ¬ (q : Int) < (q : Int) := by omega
                have u2 : decide (q < q) = false := decide_eq_false (by omega)
                have hcnt := HCNT.out
                have hT : s.take q = s := by rw [HN.out, List.take_length]
                rw [hT] at hcq ⊢
                clear hT
                generalize s.countP (fun z => lessE z ⟨yh, yv, yp⟩) = cn at *
                obtain ⟨n1, n2, n3, n4⟩ := hcnt
                have v1 : decide ((lo : Int) < 0) = false := decide_eq_false (by omega)
                have v2 : decide ((q : Int) < (hi : Int)) = false := decide_eq_false (by omega)
                have v3 : decide ((cn : Int) < (lo : Int)) = false := decide_eq_false (by omega)
                have v4 : decide ((hi : Int) < (cn : Int)) = false := decide_eq_false (by omega)
                have v5 : decide ((7 : Int) < (hi : Int) - (lo : Int)) = false := decide_eq_false (by omega)
                have v6 : decide (q < hi) = false := decide_eq_false (by omega)
                have v7 : decide (cn < lo) = false := decide_eq_false (by omega)
                have v8 : decide (hi < cn) = false := decide_eq_false (by omega)
                have v9 : ¬ (7 : Int) < (hi : Int) - (lo : Int) := by omega
                clear HF HN HCNT E6 hgl hbel3 hqn
                go_wp2_with fail
                refine (HRUN.out _ HB6.out).mono ?_
                rintro e w7 ⟨rfl, hb7⟩
                have HB7 := Lib.hid (bj HB6.out hb7)
                clear hb7 k0 k1 k2
                go_wp2
                (first | obtain ⟨rfl, rfl, rfl⟩ := HYX.out | obtain ⟨rfl, -⟩ := HYX.out)
                go_roundw
                case rel =>
                  obtain ⟨j', h1, h2⟩ := HNJ.out
                  exact ⟨j', _, h1, h2, by go_num, HB7.out⟩
                case measure => simp [intOf]; omega
        · have s1 : decide (d < (n : Int)) = false := decide_eq_false (by omega)
          have s2 : ¬ d < (n : Int) := by omega
          have HBEL2 := Lib.hid hbel
          clear hd hlt hj hbel hbw1 a0 a1 a2
          go_wp2_with fail
          refine (HMI.out _).mono ?_
          rintro e w6 ⟨rfl, hb6⟩
          go_wp2
          go_ret
          exact ⟨rfl, bj (bj HB1.out (bj HB3.out HBEL2.out)) hb6⟩
theorem walk (w : World) (v : Value) (l : List EntS) (x : EntS) (hl : EntsIn w v l) (hok : ∀ x ∈ l, EntOk x) (hx : EntOk x) :
    Calls Try.prog 5 #[v, entB x] w fun e w' => e = .returned (.bool true) ∧ Below w.heap.size w w' := walk_ w v l x hl
end midsBetween
end Go.Proofs.Ytipimfimibnjiaa

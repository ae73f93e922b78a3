/- MdNarrow, MdNarrowRef -/
import Derived.Test.YtmbhafabphogdaaGreatRk29
import Derived.Test.YtmbhafabphogdaaGreatRk28
import Derived.Deep.CutBlock
import Derived.Deep.DeepCutAuto
import Derived.Deep.DrawnRows
import Derived.WalkMore
/- MdNarrow -/
namespace Go.Proofs.YtmbhafabphogdaaGreat
open Go.RowKit Go.Shelf
set_option linter.unusedVariables false
set_option maxRecDepth 100000
attribute [local go_sem ↓] Go.wp_at_zero Go.wp_at_succ

def NarEnd (r : Int × Int) (w : World) (e : Ending) (w' : World) : Prop := e = .returned (.tuple #[.int .i64 r.1, .int .i64 r.2]) ∧ Below w.heap.size w w'
theorem within_parts (lo hi many a p b q : Int) (h1 : (if 0 > lo then 0 else lo) = a) (h2 : (if many < a then many else a) = p) (h3 : (if p > hi then p else hi) = b) (h4 : (if many < b then many else b) = q) : withinM lo hi many = (p, q) := by
  unfold withinM
  refine Prod.ext ?_ ?_ <;> simp only <;> subst h4 h3 h2 h1 <;> (repeat' split) <;> omega
set_option maxRecDepth 100000 in
theorem within_any (lo hi many : Int) (w : World) :
    Calls Tryz.prog 116 #[.int .i64 lo, .int .i64 hi, .int .i64 many] w (NarEnd (withinM lo hi many) w) := by
  obtain ⟨a, h1⟩ : ∃ a : Int, (if 0 > lo then 0 else lo) = a := ⟨_, rfl⟩
  obtain ⟨p, h2⟩ : ∃ p : Int, (if many < a then many else a) = p := ⟨_, rfl⟩
  obtain ⟨b, h3⟩ : ∃ b : Int, (if p > hi then p else hi) = b := ⟨_, rfl⟩
  obtain ⟨q, h4⟩ : ∃ q : Int, (if many < b then many else b) = q := ⟨_, rfl⟩
  rw [within_parts lo hi many a p b q h1 h2 h3 h4]
  go_enter Tryz.func116, Tryz.ntmps116
  go_wp2
  go_ret2
  exact ⟨rfl, Below.refl _ _⟩
def narM (x : EntS) (m : List MidS) (many : Int) : Int × Int := withinM (scanM x m 0 (max many 0)).1 (scanM x m 0 (max many 0)).2 (max many 0)
set_option maxHeartbeats 2000000 in
set_option maxRecDepth 100000 in
theorem narrow_any (v : Value) (m : List MidS) (many : Int) (x : EntS) (w : World) (hm : MidsIn w v m) (hn : m.length ≤ 1000000) :
    Calls Tryz.prog 94 #[v, .int .i64 many, entB x] w (NarEnd (narM x m many) w) := by
  obtain ⟨A0, off, cap, rfl, hmax, hcell⟩ := hm.form
  have HC := Lib.hid hcell
  obtain ⟨n, hnn⟩ : ∃ n, n = m.length := ⟨_, rfl⟩
  have HN := Lib.hid hnn
  obtain ⟨mx, hmx⟩ : ∃ mx, (if 0 > many then 0 else many) = mx := ⟨_, rfl⟩
  have emx : max many 0 = mx := by subst hmx; split <;> omega
  have HR := Lib.hid (show narM x m many = withinM (scanM x m 0 mx).1 (scanM x m 0 mx).2 mx by unfold narM; rw [emx])
  generalize narM x m many = R at *
  rw [← hnn] at hn ⊢
  clear hmax
  have hb1 := (Below.refl w.heap.size w).alloc (Nat.le_refl _) (.cells #[.int .u64 (x.h : Nat), .int .i64 x.v, .int .i64 x.p] 56)
  have E1 := Blok.new w 56 #[.int .u64 (x.h : Nat), .int .i64 x.v, .int .i64 x.p]
  obtain ⟨w1, hw1⟩ : ∃ w1, w.alloc (.cells #[.int .u64 (x.h : Nat), .int .i64 x.v, .int .i64 x.p] 56) = w1 := ⟨_, rfl⟩
  obtain ⟨B, hB⟩ : ∃ B, w.heap.size = B := ⟨_, rfl⟩
  rw [hw1] at hb1 E1
  rw [hB] at E1
  have HB1 := Lib.hid hb1
  have HE := Lib.hid (show ∀ W, Below w1.heap.size w1 W → W.cell? ⟨B, 0, none⟩ = some (.int .u64 (x.h : Nat)) ∧ W.cell? ⟨B, 1, none⟩ = some (.int .i64 x.v) ∧ W.cell? ⟨B, 2, none⟩ = some (.int .i64 x.p) from fun W hW =>
    ⟨(hW.cell (p := ⟨B, 0, none⟩) E1.lt).trans (E1.cell 0), (hW.cell (p := ⟨B, 1, none⟩) E1.lt).trans (E1.cell 1), (hW.cell (p := ⟨B, 2, none⟩) E1.lt).trans (E1.cell 2)⟩)
  have HCC := Lib.hid (show ∀ W, Below w1.heap.size w1 W → ∀ i y, m[i]? = some y → ∃ b, A0 = some ⟨b, off, none⟩ ∧ W.cell? ⟨b, off + i * 4, none⟩ = some (.int .u64 (y.e.h : Nat)) ∧ W.cell? ⟨b, off + i * 4 + 1, none⟩ = some (.int .i64 y.e.v) ∧ W.cell? ⟨b, off + i * 4 + 2, none⟩ = some (.int .i64 y.e.p) ∧ W.cell? ⟨b, off + i * 4 + 3, none⟩ = some (.int .i64 y.k) from fun W hW i y hy => by
    obtain ⟨b, e, hb, c0, c1, c2, c3⟩ := HC.out i y hy
    have hW2 := bj HB1.out hW
    exact ⟨b, e, (hW2.cell (p := ⟨b, off + i * 4, none⟩) hb).trans c0, (hW2.cell (p := ⟨b, off + i * 4 + 1, none⟩) hb).trans c1, (hW2.cell (p := ⟨b, off + i * 4 + 2, none⟩) hb).trans c2, (hW2.cell (p := ⟨b, off + i * 4 + 3, none⟩) hb).trans c3⟩)
  clear hm hcell hnn HC emx hb1 E1
  obtain ⟨xh, xv, xp⟩ := x
  simp only at hw1 HE HR
  go_enter Tryz.func94, Tryz.ntmps94
  go_wp2
  go_step3
  go_wp2
  go_step3
  go_wp2
  go_loopw [6, 7, 15] (fun lo hi i wr => ∃ (k : Nat) (z : Int), k ≤ n ∧ i = .int .i64 k ∧ lo = .int .i64 z ∧ hi = .int .i64 mx ∧ scanM ⟨xh, xv, xp⟩ m 0 mx = scanM ⟨xh, xv, xp⟩ (m.drop k) z mx ∧ Below w1.heap.size w1 wr) (fun _ _ i _ => n - (intOf i).toNat)
  case atStart => exact ⟨0, 0, Nat.zero_le _, rfl, rfl, rfl, rfl, Below.refl _ _⟩
  case round =>
    obtain ⟨k, z, hk, rfl, rfl, rfl, hsc, hbel⟩ := hrel
    have HS := Lib.hid hsc
    clear hsc
    by_cases hlt : k < n
    · have s1 : (k : Int) < (n : Int) := by omega
      obtain ⟨y, hy⟩ : ∃ y, m[k]? = some y := ⟨_, List.getElem?_eq_getElem (by rw [← HN.out]; omega)⟩
      obtain ⟨b, rfl, c0, c1, c2, c3⟩ := HCC.out wr hbel k y hy
      have hd : m.drop k = y :: m.drop (k + 1) := by
        rw [List.drop_eq_getElem_cons (by rw [← HN.out]; omega)]
        have := List.getElem?_eq_getElem (l := m) (i := k) (by rw [← HN.out]; omega)
        rw [hy] at this
        rw [← Option.some.inj this]
      have hs2 : scanM ⟨xh, xv, xp⟩ (m.drop k) z mx = _ := rfl
      rw [hd] at hs2
      conv at hs2 => rhs; rw [scanM]
      rw [← hd] at hs2
      have hb2 := hbel.alloc hbel.size (.cells #[.int .u64 (y.e.h : Nat), .int .i64 y.e.v, .int .i64 y.e.p, .int .i64 y.k] 135)
      have E2 := Blok.new wr 135 #[.int .u64 (y.e.h : Nat), .int .i64 y.e.v, .int .i64 y.e.p, .int .i64 y.k]
      have HL := Lib.hid fun W => eless_any y.e ⟨xh, xv, xp⟩ W
      clear hy hd
      have HHB := Lib.hid hb2
      have HHE := Lib.hid E2
      obtain ⟨q, hq⟩ : ∃ q, IntKind.i64.wrap (y.k + 1) = q := ⟨_, rfl⟩
      rw [hq] at hs2
      cases o : lessE y.e ⟨xh, xv, xp⟩
      · rw [o, if_neg (by decide)] at hs2
        rw [o] at HL
        have HR2 := Lib.hid (show R = withinM z y.k mx by rw [HR.out, HS.out, hs2])
        have HW := Lib.hid fun W => within_any z y.k mx W
        clear hs2 o hb2 E2 hbel
        generalize withinM z y.k mx = RR at *
        obtain ⟨⟨yh, yv, yp⟩, yk⟩ := y
        simp only at c0 c1 c2 c3 hq HL HHB HHE
        obtain ⟨a0, a1, a2⟩ := HE.out _ HHB.out
        go_wp2_with fail
        refine (HL.out _).mono ?_
        rintro e w3 ⟨rfl, hb3⟩
        have c33 := ((HHE.out).touch (Touch.of_below hb3) (by simp)).cell 3
        have hb4 := bj HHB.out hb3
        go_wp2_with fail
        refine (HW.out _).mono ?_
        rintro e w4 ⟨rfl, hb5⟩
        go_wp2
        go_ret2
        exact ⟨by rw [HR2.out]; rfl, bj (bj HB1.out hb4) hb5⟩
      · rw [o, if_pos rfl] at hs2
        rw [o] at HL
        have HR2 := Lib.hid (HS.out.trans hs2)
        clear hs2 o hb2 E2 hbel
        obtain ⟨⟨yh, yv, yp⟩, yk⟩ := y
        simp only at c0 c1 c2 c3 hq HL HHB HHE
        obtain ⟨a0, a1, a2⟩ := HE.out _ HHB.out
        go_wp2_with fail
        refine (HL.out _).mono ?_
        rintro e w3 ⟨rfl, hb3⟩
        have c33 := ((HHE.out).touch (Touch.of_below hb3) (by simp)).cell 3
        have hb4 := bj HHB.out hb3
        go_wp2
        go_roundw
        case rel => exact ⟨k + 1, q, by omega, by go_num, rfl, rfl, HR2.out, hb4⟩
        case measure => simp [intOf]; omega
    · obtain rfl : k = n := by omega
      have s1 : ¬ (k : Int) < (k : Int) := by omega
      have hs2 := HS.out
      rw [List.drop_of_length_le (by rw [← HN.out]; exact Nat.le_refl _), scanM] at hs2
      have HR2 := Lib.hid (show R = withinM z mx mx by rw [HR.out, hs2])
      have HW := Lib.hid fun W => within_any z mx mx W
      clear hs2 hlt
      generalize withinM z mx mx = RR at *
      go_wp2_with fail
      refine (HW.out _).mono ?_
      rintro e w4 ⟨rfl, hb5⟩
      go_wp2
      go_ret2
      exact ⟨by rw [HR2.out]; rfl, bj (bj HB1.out hbel) hb5⟩
end Go.Proofs.YtmbhafabphogdaaGreat

/- MdNarrowRef -/
namespace Go.Proofs.YtmbhafabphogdaaGreat
open Go.RowKit Go.Shelf
set_option linter.unusedVariables false
set_option maxRecDepth 100000
attribute [local go_sem ↓] Go.wp_at_zero Go.wp_at_succ

theorem hi_step {m : List MidS} {c p : Nat} {many : Int} {y : MidS} (hy : m[p]? = some y) (h : ¬ p < c) : hiM m (max c p) many = y.k := by
  rw [show max c p = p by omega]
  unfold hiM
  rw [hy]
theorem hi_stay {m : List MidS} {c p : Nat} {many : Int} (h : p < c) : hiM m (max c p) many = hiM m (max c (p + 1)) many := by
  rw [show max c p = max c (p + 1) by omega]
theorem hi_end {m : List MidS} {c : Nat} {many : Int} : hiM m (max c 0) many = hiM m c many := by rw [show max c 0 = c by omega]
theorem hi_first {m : List MidS} {c : Nat} {many : Int} (h : c ≤ m.length) : hiM m (max c m.length) many = many := by
  rw [show max c m.length = m.length by omega]
  unfold hiM
  rw [List.getElem?_eq_none (Nat.le_refl _)]
theorem lo_step {m : List MidS} {c p : Nat} {y : MidS} (hy : m[p]? = some y) (h : p < c) : loM m (min c (p + 1)) = y.k + 1 := by
  rw [show min c (p + 1) = p + 1 by omega]
  unfold loM
  rw [if_neg (Nat.succ_ne_zero p), Nat.add_sub_cancel, hy]
theorem lo_stay {m : List MidS} {c p : Nat} (h : ¬ p < c) : loM m (min c (p + 1)) = loM m (min c p) := by
  rw [show min c (p + 1) = min c p by omega]
theorem lo_end {m : List MidS} {c : Nat} (h : c ≤ m.length) : loM m (min c m.length) = loM m c := by rw [show min c m.length = c by omega]
/-- Of entries that are sorted: both answers. -/
structure NarIs (l : List EntS) (x : EntS) (lo hi : Nat) : Prop where
  own : narM x (midsL l) (l.length : Nat) = ((lo : Int), (hi : Int))
  ref : ∃ c, CutM x (midsL l) c ∧ loM (midsL l) c = (lo : Int) ∧ hiM (midsL l) c (l.length : Nat) = (hi : Int)
  at_least : lo ≤ l.countP (fun y => lessE y x)
  at_most : l.countP (fun y => lessE y x) ≤ hi
  top : hi ≤ l.length
  gap : hi ≤ lo + 7
theorem nar_is {l : List EntS} (h : RiseE l) (hn : l.length ≤ 1000000) (x : EntS) : ∃ lo hi, NarIs l x lo hi := by
  obtain ⟨lo, hi, h1, h2, h3, h4, h5, h6⟩ := mids_lo_hi (e := x) h
  have hc := mids_cut (e := x) h
  refine ⟨lo, hi, ?_, ⟨_, hc, h1, h2⟩, h3, h4, h5, h6⟩
  have hm : max ((l.length : Nat) : Int) 0 = (l.length : Nat) := by omega
  unfold narM
  rw [hm, scan_cut hc (fun y hy => (mids_small hn y hy).1)]
  have e : (if cutN l.length (l.countP fun y => lessE y x) = 0 then 0 else loM (midsL l) (cutN l.length (l.countP fun y => lessE y x))) = (lo : Int) := by
    rw [← h1]
    split
    · rename_i h0
      rw [h0]
      rfl
    · rfl
  rw [e, h2]
  exact withinM_id (by simp only; omega) (by simp only; omega) (by simp only; omega)
theorem NarIs.run {l : List EntS} {x : EntS} {lo hi : Nat} (h : NarIs l x lo hi) {w : World} {v : Value} (hm : MidsIn w v (midsL l)) (hn : l.length ≤ 1000000) :
    Calls Tryz.prog 94 #[v, .int .i64 (l.length : Nat), entB x] w (NarEnd ((lo : Int), (hi : Int)) w) := by
  rw [← h.own]
  have := midsTo_length l l.length
  exact narrow_any v _ _ x w hm (by unfold midsL; omega)
end Go.Proofs.YtmbhafabphogdaaGreat

/- WeightsRef, Floats, FloatOrd, Rates -/
import Derived.Test.YtmbhafabphogdaaGreatRk07
import Derived.Test.YtmbhafabphogdaaGreatRk01
import Derived.Laws.Externs
import Derived.Laws.Bits64
import Derived.WalkMore
/- WeightsRef -/
namespace Go.Proofs.YtmbhafabphogdaaGreat
open Go.RowKit
set_option linter.unusedVariables false

end Go.Proofs.YtmbhafabphogdaaGreat

/- Floats -/
namespace Go.Proofs.YtmbhafabphogdaaGreat
open Go.RowKit
set_option linter.unusedVariables false

/-- A slice value has these elements. -/
def RowOf (mk : Nat → Value) (w : World) (v : Value) (l : List Nat) : Prop :=
  (l = [] ∧ ∃ a cap, v = .slice a 0 cap) ∨
  (0 < l.length ∧ ∃ b off cap, v = .slice (some ⟨b, off, none⟩) l.length cap ∧ l.length ≤ cap ∧ b < w.heap.size ∧ ∀ i, i < l.length → w.cell? ⟨b, off + i, none⟩ = some (mk (l.getD i 0)))
def f64V (n : Nat) : Value := .float .f64 n
def u64V (n : Nat) : Value := .int .u64 (n : Int)
theorem RowOf.below {mk : Nat → Value} {w w' : World} {v : Value} {l : List Nat} {B : Nat} (h : RowOf mk w v l) (hb : Below B w w') (hB : w.heap.size ≤ B) : RowOf mk w' v l := by
  rcases h with h | ⟨h0, b, off, cap, hv, hc, hlt, hcell⟩
  · exact Or.inl h
  · exact Or.inr ⟨h0, b, off, cap, hv, hc, Nat.lt_of_lt_of_le hlt hb.size, fun i hi => (hb.cell (p := ⟨b, off + i, none⟩) (Nat.lt_of_lt_of_le hlt hB)).trans (hcell i hi)⟩
theorem RowOf.of_owns {w : World} {base : Nat} {e : TypeId} {v : Value} {l : List Nat} (mk : Nat → Value) (h : w.ownsRow base e 1 v l.length (l.map mk)) : RowOf mk w v l := by
  have h' := h
  rcases h.2 with ⟨hv, h0⟩ | ⟨g, cap, cur, hv, hg, hh, hn, hm, hsz, ht⟩
  · exact Or.inl ⟨List.length_eq_zero_iff.1 h0, none, 0, hv⟩
  · by_cases hl : l = []
    · subst hl
      exact Or.inl ⟨rfl, _, _, hv⟩
    · refine Or.inr ⟨List.length_pos_iff.2 hl, g, 0, cap, hv, hn, ?_, fun i hi => ?_⟩
      · obtain ⟨hlt, _⟩ := Array.getElem?_eq_some_iff.1 hh
        exact hlt
      · rw [hv] at h'
        rw [Nat.zero_add, h'.cellAt i (by omega), List.getElem?_map, List.getD_eq_getElem?_getD, List.getElem?_eq_getElem hi]
        rfl

theorem owns_block {w : World} {base : Nat} {e : TypeId} {v : Value} {n : Nat} {xs : List Value} (h : w.ownsRow base e 1 v n xs) : ∀ k, v.ownBlock = some k → base ≤ k := by
  intro k hk
  rcases h.2 with ⟨rfl, _⟩ | ⟨g, cap, cur, rfl, hg, _⟩
  · cases hk
  · cases hk; exact hg

theorem owns_below {w w' : World} {base B : Nat} {e : TypeId} {v : Value} {n : Nat} {xs : List Value} (h : w.ownsRow base e 1 v n xs) (hb : Below B w w') (hB : w.heap.size ≤ B) : w'.ownsRow base e 1 v n xs := by
  refine ⟨h.1, ?_⟩
  rcases h.2 with h0 | ⟨g, cap, cur, hv, hg, hh, r⟩
  · exact Or.inl h0
  · obtain ⟨hlt, _⟩ := Array.getElem?_eq_some_iff.1 hh
    exact Or.inr ⟨g, cap, cur, hv, hg, (hb.block g (Nat.lt_of_lt_of_le hlt hB)).trans hh, r⟩
/-- A part of a row, from a place on, and up to it. -/
theorem RowOf.drop {mk : Nat → Value} {w : World} {b off cap : Nat} {l : List Nat} (hcap : l.length ≤ cap) (hb : b < w.heap.size) (hc : ∀ i, i < l.length → w.cell? ⟨b, off + i, none⟩ = some (mk (l.getD i 0))) (k : Nat) (hk : k < l.length) (cap' : Nat) (hcap' : l.length - k ≤ cap') :
    RowOf mk w (.slice (some ⟨b, off + k, none⟩) (l.length - k) cap') (l.drop k) := by
  refine Or.inr ⟨by rw [List.length_drop]; omega, b, off + k, cap', by rw [List.length_drop], by rw [List.length_drop]; exact hcap', hb, fun i hi => ?_⟩
  rw [List.length_drop] at hi
  have e : (l.drop k).getD i 0 = l.getD (k + i) 0 := by rw [List.getD_eq_getElem?_getD, List.getD_eq_getElem?_getD, List.getElem?_drop]
  rw [e, Nat.add_assoc]
  exact hc (k + i) (by omega)
theorem RowOf.take {mk : Nat → Value} {w : World} {b off cap : Nat} {l : List Nat} (hcap : l.length ≤ cap) (hb : b < w.heap.size) (hc : ∀ i, i < l.length → w.cell? ⟨b, off + i, none⟩ = some (mk (l.getD i 0))) (k : Nat) (hk : k < l.length) (cap' : Nat) (hcap' : k ≤ cap') :
    RowOf mk w (.slice (some ⟨b, off, none⟩) k cap') (l.take k) := by
  have hl : (l.take k).length = k := by rw [List.length_take]; omega
  by_cases h0 : k = 0
  · subst h0
    exact Or.inl ⟨rfl, _, _, rfl⟩
  · refine Or.inr ⟨by omega, b, off, cap', by rw [hl], by omega, hb, fun i hi => ?_⟩
    have e : (l.take k).getD i 0 = l.getD i 0 := by rw [List.getD_eq_getElem?_getD, List.getD_eq_getElem?_getD, List.getElem?_take, if_pos (by omega)]
    rw [e]
    exact hc i (by omega)

theorem info_f64 : (Tryz.prog.info? 24).map (fun i => (i.zero, i.size, i.bytes)) = some (some (.float .f64 0), 1, 8) := by kernel_rfl
theorem words_at {l : List Nat} (h : Words l) (k : Nat) : l.getD k 0 < 18446744073709551616 := by
  by_cases hk : k < l.length
  · rw [List.getD_eq_getElem?_getD, List.getElem?_eq_getElem hk]; exact h _ (List.getElem_mem hk)
  · rw [List.getD_eq_getElem?_getD, List.getElem?_eq_none (by omega)]; exact (by decide : (0 : Nat) < 18446744073709551616)
theorem take_next (l : List Nat) (k : Nat) (h : k < l.length) : l.take (k + 1) = l.take k ++ [l.getD k 0] := by
  rw [List.take_add_one, List.getElem?_eq_getElem h, List.getD_eq_getElem?_getD, List.getElem?_eq_getElem h]
  rfl

end Go.Proofs.YtmbhafabphogdaaGreat

/- FloatOrd -/
namespace Go.Proofs.YtmbhafabphogdaaGreat
open Go.RowKit
set_option linter.unusedVariables false

theorem f_lt {a b : Nat} (ha : a < 18446744073709551616) (hb : b < 18446744073709551616) : (FloatKind.f64.format.order a b == some Ordering.lt) = (!nanB a && !nanB b && decide (sr a < sr b)) := by
  show (Ieee.double.order a b == some Ordering.lt) = _
  rw [order_eq ha hb]
  cases nanB a <;> cases nanB b <;> simp [compare, compareOfLessAndEq]
  by_cases h : sr a < sr b
  · simp [h]
  · by_cases h2 : sr a = sr b <;> simp [h, h2]
theorem f_gt {a b : Nat} (ha : a < 18446744073709551616) (hb : b < 18446744073709551616) : (FloatKind.f64.format.order a b == some Ordering.gt) = (!nanB a && !nanB b && decide (sr b < sr a)) := by
  show (Ieee.double.order a b == some Ordering.gt) = _
  rw [order_eq ha hb]
  cases nanB a <;> cases nanB b <;> simp [compare, compareOfLessAndEq]
  by_cases h : sr a < sr b
  · have : ¬ sr b < sr a := by omega
    simp [h, this]
  · by_cases h2 : sr a = sr b
    · have : ¬ sr b < sr a := by omega
      simp [h2]
    · have : sr b < sr a := by omega
      simp [h, h2, this]
theorem f_eq {a b : Nat} (ha : a < 18446744073709551616) (hb : b < 18446744073709551616) : (FloatKind.f64.format.order a b == some Ordering.eq) = (!nanB a && !nanB b && decide (sr a = sr b)) := by
  show (Ieee.double.order a b == some Ordering.eq) = _
  rw [order_eq ha hb]
  cases nanB a <;> cases nanB b <;> simp [compare, compareOfLessAndEq]
  by_cases h : sr a < sr b
  · have : ¬ sr a = sr b := by omega
    simp [h, this]
  · by_cases h2 : sr a = sr b <;> simp [h2, h]
theorem f_self {a : Nat} (ha : a < 18446744073709551616) : (FloatKind.f64.format.order a a == some Ordering.eq) = !nanB a := by
  rw [f_eq ha ha]
  cases nanB a <;> simp
theorem f_ne {a b : Nat} : (FloatKind.f64.format.order a b != some Ordering.eq) = !(FloatKind.f64.format.order a b == some Ordering.eq) := rfl
theorem f_le {a b : Nat} (ha : a < 18446744073709551616) (hb : b < 18446744073709551616) : (FloatKind.f64.format.order a b == some Ordering.lt || FloatKind.f64.format.order a b == some Ordering.eq) = (!nanB a && !nanB b && decide (sr a ≤ sr b)) := by
  rw [f_lt ha hb, f_eq ha hb]
  cases nanB a <;> cases nanB b <;> simp
  by_cases h : sr a < sr b
  · simp [h, Int.le_of_lt h]
  · by_cases h2 : sr a = sr b
    · simp [h2]
    · have h3 : ¬ sr a ≤ sr b := by omega
      simp [h, h2, h3]
end Go.Proofs.YtmbhafabphogdaaGreat

/- Rates -/
namespace Go.Proofs.YtmbhafabphogdaaGreat
open Go.RowKit
set_option linter.unusedVariables false

theorem isnan_f (b : Nat) (w : World) (hb : b < 18446744073709551616) :
    Calls Tryz.prog 101 #[.float .f64 b] w fun e w' => e = .returned (.bool (nanB b)) ∧ w = w' := by
  have o1 : (FloatKind.f64.format.order b b != some Ordering.eq) = nanB b := by rw [f_ne, f_self hb]; cases nanB b <;> rfl
  generalize nanB b = n at *
  clear hb
  go_enter Tryz.func101, Tryz.ntmps101
  go_wp2
  go_ret
  exact ⟨rfl, rfl⟩

/-- A half that is held against a rate. -/
theorem half_le {b : Nat} (hb : b < 18446744073709551616) (hn : nanB b = false) (k : Nat) :
    (FloatKind.f64.format.order (hw k) b == some Ordering.lt || FloatKind.f64.format.order (hw k) b == some Ordering.eq) = decide ((hw k : Int) ≤ sr b) := by
  rw [f_le (hw_word k) hb, hn, hw_nan, hw_sr]
  rfl
theorem half_run (t : TypeId) (k : Nat) (hk : k < 17) (w : World) : (binOp .quo t (.float .f64 (hw k)) (.float .f64 4611686018427387904)).run Tryz.prog w = .ok (.float .f64 (hw (k + 1))) w :=
  run_float_arith w .quo t .f64 _ _ _ (halved k hk)

set_option maxHeartbeats 1000000 in
theorem probes_num (b : Nat) (w : World) (hb : b < 18446744073709551616) (hn : nanB b = false) :
    Calls Tryz.prog 75 #[.float .f64 b] w fun e w' => ∃ n : Nat, e = .returned (.int .i64 n) ∧ LeastHalf (sr b) n ∧ w = w' := by
  have h1 := Lib.hid (fun w => isnan_f b w hb)
  have h2 := Lib.hid (half_le hb hn)
  rw [hn] at h1
  clear hb hn
  generalize sr b = s at *
  go_enter Tryz.func75, Tryz.ntmps75
  go_wp2_with fail
  go_step3
  go_wp2_with fail
  refine (h1.out _).mono ?_
  rintro e w' ⟨rfl, rfl⟩
  go_wp2
  go_step3
  go_wp2
  go_loopw [3, 4] (fun p h wr => ∃ k : Nat, 1 ≤ k ∧ k ≤ 16 ∧ p = .int .i64 k ∧ h = .float .f64 (hw k) ∧ (∀ j, 1 ≤ j → j < k → s < hw j) ∧ wr = w) (fun p _ _ => 17 - (intOf p).toNat)
  case atStart => exact ⟨1, by omega, by omega, rfl, by rw [hw_one], fun j _ _ => by omega, rfl⟩
  case round =>
    obtain ⟨k, k1, k2, rfl, rfl, hall, rfl⟩ := hrel
    by_cases hlt : k < 16
    · have s1 : (k : Int) < 16 := by omega
      have o1 := h2.out k
      have H := Lib.hid (half_run 24 k (by omega) wr)
      have Hall := Lib.hid hall
      clear hall
      obtain ⟨d, hd⟩ : ∃ d, decide ((hw k : Int) ≤ s) = d := ⟨_, rfl⟩
      rw [hd] at o1
      have Hd := Lib.hid hd
      clear hd
      have hx := H.out
      cases d
      · have G := Lib.hid (show hw (k + 1) = hw (k + 1) from rfl)
        obtain ⟨x, hxk⟩ : ∃ x, x = hw k := ⟨_, rfl⟩
        obtain ⟨y, hyk⟩ : ∃ y, y = hw (k + 1) := ⟨_, rfl⟩
        rw [← hxk, ← hyk] at hx
        rw [← hxk] at o1 ⊢
        have X := Lib.hid hxk
        have Y := Lib.hid hyk
        clear hxk hyk H G
        go_wp2
        go_roundw
        case rel =>
          refine ⟨k + 1, by omega, by omega, by go_num, by rw [Y.out], fun j j1 j2 => ?_, by trivial⟩
          rcases Nat.lt_or_ge j k with c | c
          · exact Hall.out j j1 c
          · obtain rfl : j = k := by omega
            have := of_decide_eq_false Hd.out
            omega
        case measure => simp [intOf]; omega
      · obtain ⟨x, hxk⟩ : ∃ x, x = hw k := ⟨_, rfl⟩
        rw [← hxk] at o1 ⊢
        have X := Lib.hid hxk
        clear hx H hxk
        go_wp2
        (try rw [Exit.noGoto_ret])
        go_ret
        exact ⟨k, rfl, ⟨k1, k2, Hall.out, Or.inr (of_decide_eq_true Hd.out)⟩, rfl⟩
    · obtain rfl : k = 16 := by omega
      have Hall := Lib.hid hall
      clear hall
      generalize hw 16 = x at *
      go_wp2
      (try rw [Exit.noGoto_ret])
      go_ret
      exact ⟨16, rfl, ⟨by omega, by omega, Hall.out, Or.inl rfl⟩, rfl⟩
theorem probes_nan (b : Nat) (w : World) (hb : b < 18446744073709551616) (hn : nanB b = true) :
    Calls Tryz.prog 75 #[.float .f64 b] w fun e w' => e = .returned (.int .i64 4) ∧ w = w' := by
  have h1 := Lib.hid (fun w => isnan_f b w hb)
  rw [hn] at h1
  clear hb hn
  go_enter Tryz.func75, Tryz.ntmps75
  go_wp2_with fail
  go_step3
  go_wp2_with fail
  refine (h1.out _).mono ?_
  rintro e w' ⟨rfl, rfl⟩
  go_wp2
  (try rw [Exit.noGoto_ret])
  go_ret
  exact ⟨rfl, rfl⟩
theorem probes_any (b : Nat) (w : World) (hb : b < 18446744073709551616) :
    Calls Tryz.prog 75 #[.float .f64 b] w fun e w' => ∃ n : Nat, e = .returned (.int .i64 n) ∧ ProbesOf b n ∧ w = w' := by
  unfold ProbesOf
  cases hn : nanB b
  · refine (probes_num b w hb hn).mono ?_
    rintro e w' ⟨n, he, h, hw⟩
    exact ⟨n, he, by rw [if_neg (by decide)]; exact h, hw⟩
  · refine (probes_nan b w hb hn).mono ?_
    rintro e w' ⟨he, hw⟩
    exact ⟨4, he, by rw [if_pos rfl], hw⟩

theorem within_n (n : Int) (w : World) :
    Calls Tryz.prog 102 #[.int .i64 n, .int .i64 0, .int .i64 10000] w fun e w' => e = .returned (.int .i64 (cN n : Nat)) ∧ w = w' := by
  have hc : (n < 0 ∧ (cN n : Int) = 0) ∨ (0 ≤ n ∧ 10000 < n ∧ (cN n : Int) = 10000) ∨ (0 ≤ n ∧ n ≤ 10000 ∧ (cN n : Int) = n) := by unfold cN; split; omega; split <;> omega
  rcases hc with ⟨c1, e⟩ | ⟨c1, c2, e⟩ | ⟨c1, c2, e⟩
  all_goals
    rw [e]
    clear e
    go_enter Tryz.func102, Tryz.ntmps102
    go_wp2
    go_ret
    exact ⟨rfl, rfl⟩
theorem within_k (n : Int) (w : World) :
    Calls Tryz.prog 102 #[.int .i64 n, .int .i64 1, .int .i64 16] w fun e w' => e = .returned (.int .i64 (cK n : Nat)) ∧ w = w' := by
  have hc : (n < 1 ∧ (cK n : Int) = 1) ∨ (1 ≤ n ∧ 16 < n ∧ (cK n : Int) = 16) ∨ (1 ≤ n ∧ n ≤ 16 ∧ (cK n : Int) = n) := by unfold cK; split; omega; split <;> omega
  rcases hc with ⟨c1, e⟩ | ⟨c1, c2, e⟩ | ⟨c1, c2, e⟩
  all_goals
    rw [e]
    clear e
    go_enter Tryz.func102, Tryz.ntmps102
    go_wp2
    go_ret
    exact ⟨rfl, rfl⟩
theorem pages_any (n k : Int) (w : World) :
    Calls Tryz.prog 76 #[.int .i64 n, .int .i64 k] w fun e w' => e = .returned (.int .i64 (pagesS n k : Nat)) ∧ w = w' := by
  have h1 := Lib.hid (fun w => within_n n w)
  have h2 := Lib.hid (fun w => within_k k w)
  have b1 := cN_le n
  have b2 := cK_le k
  unfold pagesS
  generalize cN n = a at *
  generalize cK k = b at *
  have hp := prod_le b1 b2
  have hq : (a : Int) * (b : Int) = ((a * b : Nat) : Int) := by simp
  have hc : (480 < a * b * 3 / 2 ∧ pagesN a b = (a * b * 3 / 2 + 479) / 480) ∨ (a * b * 3 / 2 ≤ 480 ∧ pagesN a b = 1) := by unfold pagesN bitsS; split <;> omega
  generalize pagesN a b = r at *
  generalize a * b = p at *
  have s1 : (p : Int) ≤ 160000 := by omega
  have s2 : (p : Int) * 3 ≤ 480000 := by omega
  have s3 : (0 : Int) ≤ (p : Int) * 3 := by omega
  rcases hc with ⟨c1, rfl⟩ | ⟨c1, rfl⟩
  all_goals
    go_enter Tryz.func76, Tryz.ntmps76
    go_wp2_with fail
    refine (h1.out _).mono ?_
    rintro e w' ⟨rfl, rfl⟩
    go_wp2_with fail
    refine (h2.out _).mono ?_
    rintro e w' ⟨rfl, rfl⟩
    go_wp2
    go_ret
    exact ⟨ret_int (by omega), rfl⟩
end Go.Proofs.YtmbhafabphogdaaGreat

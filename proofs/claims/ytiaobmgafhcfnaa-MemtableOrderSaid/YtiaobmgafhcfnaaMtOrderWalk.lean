/- 'MemtableOrder': the walk. -/
import Derived.Test.YtiaobmgafhcfnaaMtTable
import Derived.Test.YtiaobmgafhcfnaaMtEx
import Derived.Test.YtiaobmgafhcfnaaEntSortedOwn
import Derived.Test.YtiaobmgafhcfnaaEntSortStep
import Derived.BigQuiet
import Derived.Deep.RegionHeldLaw
import Derived.Deep.CutBlock
import Derived.Deep.DeepCutAuto
namespace Go.Proofs.Ytiaobmgafhcfnaa
open Go.RowKit Go.Shelf
set_option linter.unusedVariables false
attribute [local go_sem ↓] Go.wp_at_zero Go.wp_at_succ

theorem mem_take_more {R : List EntS} {j : Nat} {x y : EntS} (h : R[j]? = some y) : x ∈ R.take (j + 1) ↔ x ∈ R.take j ∨ y = x := by
  rw [List.take_add_one, h, List.mem_append]
  simp [eq_comm]
theorem turned_same (l : List EntS) (k : Nat) : sortE ([] ++ l.drop k ++ l.take k ++ l) = sortE l := sort_same fun y => by
  rw [List.nil_append, List.mem_append, List.mem_append]
  constructor
  · rintro ((h | h) | h)
    · exact List.mem_of_mem_drop h
    · exact List.mem_of_mem_take h
    · exact h
  · exact Or.inr
namespace memtableOrder
def TrueEnd (w : World) (e : Ending) (w' : World) : Prop := e = .returned (.bool true) ∧ Below w.heap.size w w'
set_option maxHeartbeats 8000000 in
set_option maxRecDepth 100000 in
theorem walk_ (w : World) (v : Value) (l : List EntS) (by_ : Nat) (hl : EntsIn w v l) (hok : ∀ x ∈ l, EntOk x) (hby : by_ < 256) :
    Calls Try.prog 5 #[v, .int .u8 (by_ : Nat)] w (TrueEnd w) := by
  have HKK := Lib.hid fun W => kept_true W
  obtain ⟨A, off, cap, hv, -, -⟩ := hl.form
  by_cases hn : l.length ≤ 80
  case neg =>
    subst hv
    clear hl hok
    have t1 : (80 : Int) < (l.length : Int) := by omega
    have t2 : 80 < l.length := by omega
    generalize l.length = n at *
    have H1 := Lib.hid (HKK.out w)
    go_enter Try.func5, Try.ntmps5
    go_wp2_with fail
    refine H1.out.mono ?_
    rintro e w3 ⟨rfl, hb3⟩
    go_wp2
    go_ret
    exact ⟨rfl, hb3⟩
  have HT := Lib.hid (table_run hl (by omega) hok)
  have HRL := Lib.hid (sort_length l)
  have HLL := Lib.hid hl
  have HOK := Lib.hid hok
  subst hv
  have t1 : ¬ (80 : Int) < (l.length : Int) := by omega
  have t2 : decide (80 < l.length) = false := decide_eq_false (by omega)
  obtain ⟨k, hk, hkk⟩ : ∃ k : Nat, k ≤ l.length ∧ (k = if 0 < l.length then by_ % l.length else 0) := ⟨_, by split; have := Nat.mod_lt by_ (by assumption : 0 < l.length); omega; omega, rfl⟩
  obtain ⟨A1, c1, q1, p1⟩ := ents_from hl hk
  obtain ⟨A2, c2, q2, p2⟩ := ents_to hl hk
  have HP1 := Lib.hid p1
  have HP2 := Lib.hid p2
  have HP3 := Lib.hid fun B W (hB : w.heap.size ≤ B) (hW : Below B w W) => hl.below hW hB
  obtain ⟨n, hnn⟩ : ∃ n, n = l.length := ⟨_, rfl⟩
  have HN := Lib.hid hnn
  have HD : Hid ((l.drop k).length ≤ 80 ∧ (l.take k).length ≤ 80 ∧ l.length ≤ 80) := Lib.hid ⟨by rw [List.length_drop]; omega, by rw [List.length_take]; omega, hn⟩
  rw [← hnn] at t1 t2 hn hk hkk q1 q2 HP1 HP3 HT HLL HRL ⊢
  clear hl hok hnn p1 p2
  go_enter Try.func5, Try.ntmps5
  have b0 : (by_ : Int) < 256 := by omega
  go_upto_if 20 with fail
  go_cut [5] (fun u wx => u = .int .i64 (k : Nat) ∧ wx = w)
  case first =>
    by_cases h0 : n = 0
    · rw [if_neg (by omega)] at hkk
      subst h0 hkk
      go_wp2
      go_meet
      exact ⟨rfl, rfl⟩
    · have s1 : (0 : Int) < (n : Int) := by omega
      have s2 : 0 < n := by omega
      rw [if_pos s2] at hkk
      have s3 : (by_ : Int) % (n : Int) = (k : Int) := by rw [hkk]; rfl
      have s4 : ((n : Int) == 0) = false := beq_eq_false_iff_ne.2 (by omega)
      have s5 : IntKind.i64.wrap (by_ : Int) = (by_ : Int) := IntWalk.i64_in _ (by omega)
      clear hkk
      go_wp2
      go_meet
      exact ⟨rfl, rfl⟩
  case rest =>
    obtain ⟨rfl, hwc⟩ := hcut
    obtain rfl : w = wc := hwc.symm
    clear hkk b0
    go_wp2_with fail
    refine HT.out.mono ?_
    rintro e w1 ⟨g, F, rfl, hT, hb1⟩
    have hok2 := sort_ok HOK.out
    have hr := sort_rise l
    have hRL := HRL.out
    have HTS : Hid (∀ W V, Below w1.heap.size w1 W → EntsIn W V ([] ++ l.drop k ++ l.take k ++ l) → Calls Try.prog 20 #[V] W (TableEnd W (sortE l))) := Lib.hid fun W V _ hV => by
      rw [← turned_same l k]
      refine table_run hV ?_ fun x hx => ?_
      · have := HD.out
        rw [List.nil_append, List.length_append, List.length_append]
        omega
      · rw [List.nil_append, List.mem_append, List.mem_append] at hx
        rcases hx with (hx | hx) | hx
        · exact HOK.out x (List.mem_of_mem_drop hx)
        · exact HOK.out x (List.mem_of_mem_take hx)
        · exact HOK.out x hx
    have HS1 := Lib.hid (show ∀ y, y ∈ sortE l ↔ y ∈ l from fun y => mem_sort)
    generalize sortE l = R at *
    have HDU := Lib.hid (tdump_run hT.has (by omega))
    obtain ⟨n1, hn1⟩ : ∃ n1, n1 = R.length := ⟨_, rfl⟩
    have HN1 := Lib.hid hn1
    unfold EntsOut at HDU
    rw [← hn1] at HDU hRL
    clear hT hn1
    go_wp2_with fail
    refine HDU.out.mono ?_
    rintro e w2 ⟨A5, c5, rfl, r5, b2⟩
    have hbd := bj hb1 b2
    have HA := Lib.hid (show EntsIn w2 (.slice A5 n1 c5) R by rw [HN1.out]; rw [HN1.out] at r5; exact EntRow.in_ r5)
    have HB1 : Hid (∀ W, Below w2.heap.size w2 W → Below w1.heap.size w1 W) := Lib.hid fun W hW => bj b2 hW
    have HBW : Hid (∀ W, Below w2.heap.size w2 W → Below w.heap.size w W) := Lib.hid fun W hW => bj hbd hW
    have HSZ : Hid (∀ W, Below w2.heap.size w2 W → w2.heap.size ≤ W.heap.size) := Lib.hid fun W hW => hW.size
    clear r5 hb1 b2 hbd
    go_wp2_with fail
    go_region_held_law (fun W => Below w2.heap.size w2 W)
      (first | (with_reducible assumption) | (with_reducible exact Below.refl _ _) | (with_reducible exact (Below.refl _ _).drew) | fail)
      (first
      | (refine step_append_ents (l := []) (m := l.drop k) (base := w2.heap.size) (by rfl) _ _ (by rfl) (by rfl) (by rfl) (EntRow.nil _ _) (HP1.out _ _ (Nat.le_refl _) (HBW.out _ (by first | with_reducible assumption | with_reducible exact Below.refl _ _ | with_reducible exact (Below.refl _ _).drew))) (by have := HD.out; simp only [List.length_nil]; omega) (HSZ.out _ (by first | with_reducible assumption | with_reducible exact Below.refl _ _ | with_reducible exact (Below.refl _ _).drew)) ?_; intro v1 V1 own1 gr1 at1; have far1 : ∀ z, v1.ownBlock = some z → w2.heap.size ≤ z := far_more (by first | with_reducible assumption | with_reducible exact Below.refl _ _ | with_reducible exact (Below.refl _ _).drew) far_none at1; have b1 : Below w2.heap.size w2 V1 := st_grown (by first | with_reducible assumption | with_reducible exact Below.refl _ _ | with_reducible exact (Below.refl _ _).drew) gr1 far_none)
      | (refine step_append_ents (l := [] ++ l.drop k) (m := l.take k) (by rfl) _ _ (by rfl) (by rfl) (by rfl) own1 (HP2.out _ _ (Nat.le_refl _) (HBW.out _ b1)) (by have := HD.out; simp only [List.nil_append]; omega) (HSZ.out _ b1) ?_; intro v2 V2 own2 gr2 at2; have far2 : ∀ z, v2.ownBlock = some z → w2.heap.size ≤ z := far_more b1 far1 at2; have b2 : Below w2.heap.size w2 V2 := st_grown b1 gr2 far1)
      | (refine step_append_ents (l := [] ++ l.drop k ++ l.take k) (m := l) (by rfl) _ _ (by rfl) (by rfl) (by rfl) own2 (HP3.out _ _ (Nat.le_refl _) (HBW.out _ b2)) (by have := HD.out; simp only [List.nil_append, List.length_append]; omega) (HSZ.out _ b2) ?_; intro v3 V3 own3 gr3 at3; have b3 : Below w2.heap.size w2 V3 := st_grown b2 gr3 far2)
      | (go_at_call 20; ((refine (HTS.out _ _ (HB1.out _ b3) (EntRow.in_ own3)).mono ?_); rintro e w4 ⟨g4, F4, rfl, T4, b4⟩; have b24 : Below w2.heap.size w2 w4 := bj b3 b4))
      | (go_at_call 15; ((refine (tdump_run T4.has (by have := HN1.out; omega)).mono ?_); rintro e w5 ⟨A6, c6, rfl, r6, b5⟩; have b25 : Below w2.heap.size w2 w5 := bj b24 b5))
      | fail)
    all_goals
      clear own1 own2 own3 gr1 gr2 gr3 at1 at2 at3 far1 far2 b1 b2 b3 b4 b5 T4 b24
      rw [← HN1.out] at r6 ⊢
      have LB := Lib.hid (show EntsIn w5 (.slice A6 n1 c6) R by rw [HN1.out] at r6 ⊢; exact EntRow.in_ r6)
      have LA := Lib.hid (HA.out.below b25 (Nat.le_refl _))
      have HSM := Lib.hid (same_kept LA.out LB.out (by have := HN1.out; omega) (by have := HN1.out; omega) rfl)
      clear r6
      have HB5 := Lib.hid b25
      clear b25
      go_wp2_with fail
      refine HSM.out.mono ?_
      rintro e w6 ⟨rfl, b6⟩
      have HSO := Lib.hid (sorted_any _ R w6 (LA.out.below b6 (Nat.le_refl _)) (by have := HN1.out; omega))
      rw [hr.sorted] at HSO
      go_wp2_with fail
      refine HSO.out.mono ?_
      rintro e w7 ⟨rfl, b7⟩
      have HA7 := Lib.hid ((LA.out.below b6 (Nat.le_refl _)).below b7 (Nat.le_refl _))
      have HB7 := Lib.hid (bj HB5.out (bj b6 b7))
      have HL7 := Lib.hid (HP3.out _ _ (Nat.le_refl _) (HBW.out _ HB7.out))
      have HBF := Lib.hid (HBW.out _ HB7.out)
      have y1 : ¬ (n : Int) < (n1 : Int) := by omega
      have y2 : decide (n < n1) = false := decide_eq_false (by omega)
      have y3 : (n1 : Int) ≤ 80 := by omega
      have y4 : (n : Int) ≤ 80 := by omega
      clear b6 b7 HB5 LA LB HSM HSO HA HP1 HP2 HP3 HT HTS HDU HD HB1 HBW HSZ HLL hok2 hr q1 q2
      go_wp2_with fail
      go_loopw [8] (fun i wr => ∃ j m : Nat, j ≤ n ∧ i = .int .i64 j ∧ wr = w7.drewN m) (fun i _ => n - (intOf i).toNat)
      case atStart => exact ⟨0, 0, Nat.zero_le _, rfl, rfl⟩
      case round =>
        obtain ⟨i, m0, hi, rfl, rfl⟩ := hrel
        by_cases hil : i < n
        · have z0 : (i : Int) < (n : Int) := by omega
          obtain ⟨x, hx⟩ : ∃ x, l[i]? = some x := ⟨_, List.getElem?_eq_getElem (by rw [← HN.out]; exact hil)⟩
          have HXM := Lib.hid (show x ∈ R from (HS1.out _).2 (List.mem_of_getElem? hx))
          obtain ⟨bx, ox, hbx, -, -, x0, x1, x2⟩ := ent_cell HL7.out hx
          clear hx
          subst hbx
          go_wp2
          go_loopw [9, 10] (fun q i wr => ∃ j m : Nat, j ≤ n1 ∧ i = .int .i64 j ∧ q = .bool (decide (x ∈ R.take j)) ∧ wr = w7.drewN m) (fun _ i _ => n1 - (intOf i).toNat)
          case atStart => exact ⟨0, _, Nat.zero_le _, rfl, by simp, rfl⟩
          case round =>
            obtain ⟨j, m, hj, rfl, rfl, rfl⟩ := hrel
            by_cases hjl : j < n1
            · have z1 : (j : Int) < (n1 : Int) := by omega
              obtain ⟨y, hy⟩ : ∃ y, R[j]? = some y := ⟨_, List.getElem?_eq_getElem (by rw [← HN1.out]; exact hjl)⟩
              obtain ⟨b', o', hbo, -, -, y0, y1, y2⟩ := ent_cell HA7.out hy
              have HMM := Lib.hid (mem_take_more (x := x) hy)
              by_cases hin : x ∈ R.take j
              · have e1 : decide (x ∈ R.take j) = true := decide_eq_true hin
                have HIN := Lib.hid hin
                clear hin hy y0 y1 y2 hbo
                rw [e1]
                clear e1
                go_wp2
                go_quiet (fail)
                go_wp2
                refine ⟨⟨j + 1, _, by omega, by go_num, by rw [decide_eq_true (HMM.out.2 (Or.inl HIN.out))], rfl⟩, by simp [intOf]; omega⟩
              · have e1 : decide (x ∈ R.take j) = false := decide_eq_false hin
                rw [e1]
                have heq := fun W => ent_eql y x W
                have HIN := Lib.hid hin
                clear hin hy e1
                subst hbo
                skip
                by_cases hyx : y = x
                · rw [decide_eq_true hyx] at heq
                  have HYX := Lib.hid hyx
                  have HRES := Lib.hid (decide_eq_true (HMM.out.2 (Or.inr hyx)))
                  clear hyx HMM HIN
                  obtain ⟨xh, xv, xp⟩ := x
                  obtain ⟨yh, yv, yp⟩ := y
                  simp only at x0 x1 x2 y0 y1 y2
                  go_wp2
                  go_quiet (fail)
                  go_wp2
                  refine ⟨⟨j + 1, _, by omega, by go_num, by rw [HRES.out], rfl⟩, by simp [intOf]; omega⟩
                · rw [decide_eq_false hyx] at heq
                  have HRES := Lib.hid (decide_eq_false (fun k => by rcases HMM.out.1 k with k | k; exact HIN.out k; exact hyx k : ¬ x ∈ R.take (j + 1)))
                  clear hyx HMM HIN
                  obtain ⟨xh, xv, xp⟩ := x
                  obtain ⟨yh, yv, yp⟩ := y
                  simp only at x0 x1 x2 y0 y1 y2
                  go_wp2
                  go_quiet (fail)
                  go_wp2
                  refine ⟨⟨j + 1, _, by omega, by go_num, by rw [HRES.out], rfl⟩, by simp [intOf]; omega⟩
            · obtain rfl : n1 = j := by omega
              have z1 : ¬ (n1 : Int) < (n1 : Int) := by omega
              have e1 : decide (x ∈ R.take n1) = true := decide_eq_true (by rw [HN1.out, List.take_length]; exact HXM.out)
              rw [e1]
              clear e1
              go_wp2
              go_roundw
              case rel => exact ⟨i + 1, _, by omega, by go_num, rfl⟩
              case measure => simp [intOf]; omega
        · obtain rfl : n = i := by omega
          have z0 : ¬ (n : Int) < (n : Int) := by omega
          clear hil
          go_wp2
          go_loopw [11] (fun i wr => ∃ j m : Nat, j ≤ n1 ∧ i = .int .i64 j ∧ wr = w7.drewN m) (fun i _ => n1 - (intOf i).toNat)
          case atStart => exact ⟨0, _, Nat.zero_le _, rfl, rfl⟩
          case round =>
            obtain ⟨i, m0, hi, rfl, rfl⟩ := hrel
            by_cases hil : i < n1
            · have z0 : (i : Int) < (n1 : Int) := by omega
              obtain ⟨x, hx⟩ : ∃ x, R[i]? = some x := ⟨_, List.getElem?_eq_getElem (by rw [← HN1.out]; exact hil)⟩
              have HXM := Lib.hid (show x ∈ l from (HS1.out _).1 (List.mem_of_getElem? hx))
              obtain ⟨bx, ox, hbx, -, -, x0, x1, x2⟩ := ent_cell HA7.out hx
              clear hx
              subst hbx
              go_wp2
              go_loopw [12, 13] (fun q i wr => ∃ j m : Nat, j ≤ n ∧ i = .int .i64 j ∧ q = .bool (decide (x ∈ l.take j)) ∧ wr = w7.drewN m) (fun _ i _ => n - (intOf i).toNat)
              case atStart => exact ⟨0, _, Nat.zero_le _, rfl, by simp, rfl⟩
              case round =>
                obtain ⟨j, m, hj, rfl, rfl, rfl⟩ := hrel
                by_cases hjl : j < n
                · have z1 : (j : Int) < (n : Int) := by omega
                  obtain ⟨y, hy⟩ : ∃ y, l[j]? = some y := ⟨_, List.getElem?_eq_getElem (by rw [← HN.out]; exact hjl)⟩
                  obtain ⟨b', o', hbo, -, -, y0, y1, y2⟩ := ent_cell HL7.out hy
                  have HMM := Lib.hid (mem_take_more (x := x) hy)
                  by_cases hin : x ∈ l.take j
                  · have e1 : decide (x ∈ l.take j) = true := decide_eq_true hin
                    have HIN := Lib.hid hin
                    clear hin hy y0 y1 y2 hbo
                    rw [e1]
                    clear e1
                    go_wp2
                    go_quiet (fail)
                    go_wp2
                    refine ⟨⟨j + 1, _, by omega, by go_num, by rw [decide_eq_true (HMM.out.2 (Or.inl HIN.out))], rfl⟩, by simp [intOf]; omega⟩
                  · have e1 : decide (x ∈ l.take j) = false := decide_eq_false hin
                    rw [e1]
                    have heq := fun W => ent_eql x y W
                    have HIN := Lib.hid hin
                    clear hin hy e1
                    subst hbo
                    skip
                    by_cases hyx : y = x
                    · rw [decide_eq_true hyx.symm] at heq
                      have HYX := Lib.hid hyx
                      have HRES := Lib.hid (decide_eq_true (HMM.out.2 (Or.inr hyx)))
                      clear hyx HMM HIN
                      obtain ⟨xh, xv, xp⟩ := x
                      obtain ⟨yh, yv, yp⟩ := y
                      simp only at x0 x1 x2 y0 y1 y2
                      go_wp2
                      go_quiet (fail)
                      go_wp2
                      refine ⟨⟨j + 1, _, by omega, by go_num, by rw [HRES.out], rfl⟩, by simp [intOf]; omega⟩
                    · rw [decide_eq_false (fun k => hyx k.symm)] at heq
                      have HRES := Lib.hid (decide_eq_false (fun k => by rcases HMM.out.1 k with k | k; exact HIN.out k; exact hyx k : ¬ x ∈ l.take (j + 1)))
                      clear hyx HMM HIN
                      obtain ⟨xh, xv, xp⟩ := x
                      obtain ⟨yh, yv, yp⟩ := y
                      simp only at x0 x1 x2 y0 y1 y2
                      go_wp2
                      go_quiet (fail)
                      go_wp2
                      refine ⟨⟨j + 1, _, by omega, by go_num, by rw [HRES.out], rfl⟩, by simp [intOf]; omega⟩
                · obtain rfl : n = j := by omega
                  have z1 : ¬ (n : Int) < (n : Int) := by omega
                  have e1 : decide (x ∈ l.take n) = true := decide_eq_true (by rw [HN.out, List.take_length]; exact HXM.out)
                  rw [e1]
                  clear e1
                  go_wp2
                  go_roundw
                  case rel => exact ⟨i + 1, _, by omega, by go_num, rfl⟩
                  case measure => simp [intOf]; omega
            · obtain rfl : n1 = i := by omega
              have z0 : ¬ (n1 : Int) < (n1 : Int) := by omega
              clear hil
              go_wp2_with fail
              refine (HKK.out _).mono ?_
              rintro e w8 ⟨rfl, b8⟩
              go_wp2
              go_ret
              exact ⟨rfl, bj (below_drewN HBF.out _) b8⟩
theorem walk (w : World) (v : Value) (l : List EntS) (b : Int) (hl : EntsIn w v l) (hok : ∀ x ∈ l, EntOk x) (wb : (Lit.int .u8 b).wf = true) :
    Calls Try.prog 5 #[v, .int .u8 b] w fun e w' => e = .returned (.bool true) ∧ Below w.heap.size w w' := by
  obtain ⟨k, rfl, hk⟩ := u8_nat wb
  exact walk_ w v l k hl hok hk
end memtableOrder
end Go.Proofs.Ytiaobmgafhcfnaa

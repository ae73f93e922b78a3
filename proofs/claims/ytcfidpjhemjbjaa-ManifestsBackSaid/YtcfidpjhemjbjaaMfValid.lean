/- Which manifests may be: the program's Valid. -/
import Derived.Test.YtcfidpjhemjbjaaMfMath
import Derived.Test.YtcfidpjhemjbjaaLvOwn
namespace Go.Proofs.Ytcfidpjhemjbjaa
open Go.RowKit Go.Shelf
set_option linter.unusedVariables false
set_option maxRecDepth 100000

/-- A manifest as a value; as it lies in a block. -/
def manV (n c : Int) (d : Nat) (v : Value) : Value := .agg #[.int .i64 n, .int .i64 c, .int .u64 (d : Nat), v]
abbrev manO (n c : Int) (d : Nat) (v : Value) : Obj := .cells #[.int .i64 n, .int .i64 c, .int .u64 (d : Nat), v] 25
theorem mayM_iff (n c : Int) (d : Nat) (R : LvL) (h0 : 0 ≤ n) (h1 : n ≤ 1000000) (h2 : 0 ≤ c) (h3 : c ≤ 2147483647) (hv : validL R = true) : mayM ⟨n, c, d, R⟩ = true ↔ ∀ x ∈ R.flatten, x < n := by
  unfold mayM
  rw [decide_eq_true_iff]
  exact ⟨fun h => h.2.2.2.2.2, fun h => ⟨h0, h1, h2, h3, of_decide_eq_true hv, h⟩⟩
theorem mayM_lv {n c : Int} {d : Nat} {R : LvL} (hv : validL R = false) : mayM ⟨n, c, d, R⟩ = false := decide_eq_false fun h => (of_decide_eq_false hv) h.2.2.2.2.1
theorem mayM_nums {n c : Int} {d : Nat} {R : LvL} (h : n < 0 ∨ 1000000 < n ∨ c < 0 ∨ 2147483647 < c) : mayM ⟨n, c, d, R⟩ = false := decide_eq_false fun hm => by
  obtain ⟨h1, h2, h3, h4, -⟩ := hm
  simp only at h1 h2 h3 h4
  omega
theorem mcell {B : Nat} {w w' : World} {p : Addr} {v : Value} (hb : Below B w w') (hp : p.block < B) (h : w.cell? p = some v) : w'.cell? p = some v := (hb.cell hp).trans h

theorem mval_nums (n c : Int) (d : Nat) (A : Option Addr) (k cp : Nat) (R : LvL) (w : World) (hq : n < 0 ∨ 1000000 < n ∨ c < 0 ∨ 2147483647 < c) :
    Calls Try.prog 13 #[manV n c d (.slice A k cp)] w fun e w' => e = .returned (.bool (mayM ⟨n, c, d, R⟩)) ∧ Below w.heap.size w w' := by
  rw [mayM_nums hq]
  have hb := (Below.refl w.heap.size w).alloc (Nat.le_refl _) (manO n c d (.slice A k cp))
  unfold manV
  by_cases h0 : n < 0
  · have q0 : decide (n < 0) = true := decide_eq_true h0
    clear hq
    go_enter Try.func13, Try.ntmps13
    go_wp2
    go_ret
    exact ⟨rfl, hb⟩
  · have q0 : decide (n < 0) = false := decide_eq_false h0
    by_cases h1 : 1000000 < n
    · have q1 : decide (1000000 < n) = true := decide_eq_true h1
      clear hq
      go_enter Try.func13, Try.ntmps13
      go_wp2
      go_ret
      exact ⟨rfl, hb⟩
    · have q1 : decide (1000000 < n) = false := decide_eq_false h1
      by_cases h2 : c < 0
      · have q2 : decide (c < 0) = true := decide_eq_true h2
        clear hq
        go_enter Try.func13, Try.ntmps13
        go_wp2
        go_ret
        exact ⟨rfl, hb⟩
      · have q2 : decide (c < 0) = false := decide_eq_false h2
        have h3 : 2147483647 < c := by omega
        have q3 : decide (2147483647 < c) = true := decide_eq_true h3
        clear hq
        go_enter Try.func13, Try.ntmps13
        go_wp2
        go_ret
        exact ⟨rfl, hb⟩
set_option maxHeartbeats 1000000 in
theorem mval_any (n c : Int) (d : Nat) (A : Option Addr) (k cp : Nat) (R : LvL) (w : World) (h : LvsHas w (.slice A k cp) R) (hl : R.flatten.length ≤ 100000) (hL : R.length ≤ 100000) :
    Calls Try.prog 13 #[manV n c d (.slice A k cp)] w fun e w' => e = .returned (.bool (mayM ⟨n, c, d, R⟩)) ∧ Below w.heap.size w w' := by
  by_cases hq : n < 0 ∨ 1000000 < n ∨ c < 0 ∨ 2147483647 < c
  · exact mval_nums n c d A k cp R w hq
  have q0 : decide (n < 0) = false := decide_eq_false (by omega)
  have q1 : decide (1000000 < n) = false := decide_eq_false (by omega)
  have q2 : decide (c < 0) = false := decide_eq_false (by omega)
  have q3 : decide (2147483647 < c) = false := decide_eq_false (by omega)
  have hb := (Below.refl w.heap.size w).alloc (Nat.le_refl _) (manO n c d (.slice A k cp))
  have HB := Lib.hid hb
  have h0 := h.below hb (Nat.le_refl _)
  have HV := Lib.hid (lvalid_any _ R _ h0 hl hL)
  unfold manV
  cases hv : validL R with
  | false =>
    rw [hv] at HV
    rw [mayM_lv hv]
    clear h hb h0 hv hq
    go_enter Try.func13, Try.ntmps13
    go_wp2_with fail
    refine HV.out.mono ?_
    rintro e w1 ⟨rfl, hb1⟩
    have HB1 := Lib.hid hb1
    clear hb1
    go_wp2
    go_ret
    exact ⟨rfl, bj HB.out HB1.out⟩
  | true =>
    rw [hv] at HV
    have HM := Lib.hid (mayM_iff n c d R (by omega) (by omega) (by omega) (by omega) hv)
    have HALL := Lib.hid (fun W (hW : Below (w.heap.size + 1) (w.alloc (manO n c d (.slice A k cp))) W) => lall_any _ R W (h0.below hW (by simp)) hl hL)
    obtain ⟨m, hm⟩ : ∃ m, m = R.flatten.length := ⟨_, rfl⟩
    have HN := Lib.hid hm
    unfold IntsOut at HALL
    rw [← hm] at HALL hl
    clear hm
    generalize mayM ⟨n, c, d, R⟩ = q at *
    generalize R.flatten = l at *
    have c0 : (w.alloc (manO n c d (.slice A k cp))).cell? ⟨w.heap.size, 0, none⟩ = some (.int .i64 n) := World.cell?_alloc_at _ _ _ _ rfl
    have c3 : (w.alloc (manO n c d (.slice A k cp))).cell? ⟨w.heap.size, 3, none⟩ = some (.slice A k cp) := World.cell?_alloc_at _ _ _ _ rfl
    have C0 := Lib.hid c0
    have C3 := Lib.hid c3
    clear h hb h0 hv hq c0 c3
    go_enter Try.func13, Try.ntmps13
    go_wp2_with fail
    refine HV.out.mono ?_
    rintro e w1 ⟨rfl, hb1⟩
    rw [World.size_alloc] at hb1
    have c0 := mcell hb1 (show w.heap.size < w.heap.size + 1 by omega) C0.out
    have c3 := mcell hb1 (show w.heap.size < w.heap.size + 1 by omega) C3.out
    have hz1 := hb1.size
    rw [World.size_alloc] at hz1
    have HB1 := Lib.hid (HB.out.trans (hb1.mono (by simp)))
    have HA := Lib.hid (HALL.out w1 hb1)
    clear hb1 HALL HV
    go_wp2_with fail
    refine HA.out.mono ?_
    rintro e w2 ⟨A2, c2, rfl, hr, hb2⟩
    have HB2 := Lib.hid (bj HB1.out (hb2.mono (by have := HB1.out.size; omega)))
    have d0 := mcell hb2 (show w.heap.size < w1.heap.size by omega) c0
    obtain ⟨A', off, cap, ev, -, hc⟩ := (IRow.in_ hr).form
    have ev' : (Value.slice A2 m c2) = .slice A' m cap := by rw [ev, ← HN.out]
    obtain ⟨rfl, -, rfl⟩ := Value.slice.inj ev'
    have HC := Lib.hid hc
    clear hr hb2 hc HA c0 c3 ev ev'
    go_wp2
    go_loopw [33] (fun i wr => ∃ j : Nat, j ≤ m ∧ i = .int .i64 j ∧ (∀ i x, i < j → l[i]? = some x → x < n) ∧ wr = w2) (fun i _ => m - (intOf i).toNat)
    case atStart => exact ⟨0, Nat.zero_le _, rfl, fun i x hi => (by omega), rfl⟩
    case round =>
      obtain ⟨j, hj, rfl, hall, rfl⟩ := hrel
      have HAL := Lib.hid hall
      clear hall
      by_cases hlt : j < m
      · have l1 : (j : Int) < (m : Int) := by omega
        obtain ⟨x, hx⟩ : ∃ x, l[j]? = some x := ⟨_, List.getElem?_eq_getElem (by rw [← HN.out]; exact hlt)⟩
        obtain ⟨b, rfl, hb, cx⟩ := HC.out j x hx
        have HX := Lib.hid hx
        clear hx hb
        by_cases hxn : n ≤ x
        · have qf : q = false := by
            cases q with
            | false => rfl
            | true => have := HM.out.1 rfl x (List.mem_of_getElem? HX.out); omega
          subst qf
          have q4 : decide (n ≤ x) = true := decide_eq_true hxn
          go_wp2
          go_ret
          exact ⟨rfl, HB2.out⟩
        · have q4 : decide (n ≤ x) = false := decide_eq_false hxn
          go_wp2
          refine ⟨⟨j + 1, by omega, by go_num, fun i y hi hy => ?_, trivial⟩, by simp [intOf]; omega⟩
          rcases Nat.lt_or_ge i j with e | e
          · exact HAL.out i y e hy
          · obtain rfl : i = j := by omega
            rw [HX.out] at hy
            have := Option.some.inj hy
            omega
      · obtain rfl : j = m := by omega
        have l1 : ¬ (j : Int) < (j : Int) := by omega
        have qt : q = true := HM.out.2 fun x hx => by
          obtain ⟨i, hi⟩ := List.getElem?_of_mem hx
          exact HAL.out i x (by have := (List.getElem?_eq_some_iff.1 hi).1; rw [← HN.out] at this; exact this) hi
        subst qt
        clear hlt
        go_wp2
        go_ret
        exact ⟨rfl, HB2.out⟩
end Go.Proofs.Ytcfidpjhemjbjaa

/- All, Valid, mayCome: the program's. -/
import Derived.Test.YtcfidpjhemjbjaaLvConcat
import Derived.BigQuiet
namespace Go.Proofs.Ytcfidpjhemjbjaa
open Go.RowKit Go.Shelf
set_option linter.unusedVariables false
set_option maxRecDepth 100000

theorem lall_any (v : Value) (R : LvL) (w : World) (h : LvsHas w v R) (hl : R.flatten.length ≤ 100000) (hL : R.length ≤ 100000) : Calls Try.prog 30 #[v] w (IntsOut w R.flatten) := by
  have H := Lib.hid (concat_any v R w h hl hL)
  clear h hl hL
  unfold IntsOut at H ⊢
  generalize R.flatten = l at *
  go_enter Try.func30, Try.ntmps30
  go_wp2_with fail
  refine H.out.mono ?_
  rintro e w' ⟨A, c, rfl, h1, h2⟩
  have H1 := Lib.hid h1
  have H2 := Lib.hid h2
  clear h1 h2
  go_wp2
  go_ret
  exact ⟨A, c, rfl, H1.out, H2.out⟩
theorem validL_great {R : LvL} (h : 5 < R.length ∨ 40 < R.flatten.length) : validL R = false := decide_eq_false fun hm => by have := hm.1; have := hm.2.1; omega
theorem validL_steps {R : LvL} (h1 : R.length ≤ 5) (h2 : R.flatten.length ≤ 40) : validL R = true ↔ StepsOk (sortI R.flatten) R.flatten.length := by
  have h := stepsOk_iff R.flatten
  rw [sortI_length] at h
  rw [h]
  exact ⟨fun e => (of_decide_eq_true e).2.2, fun e => decide_eq_true ⟨h1, h2, e.1, e.2⟩⟩
theorem stepsOk_succ {s : List Int} {k : Nat} {x : Int} (h : StepsOk s k) (hx : s[k]? = some x) (h0 : 0 ≤ x) (h1 : ∀ j y, k = j + 1 → s[j]? = some y → x ≠ y) : StepsOk s (k + 1) := by
  intro i hi
  rcases Nat.lt_or_ge i k with c | c
  · exact h i c
  · obtain rfl : i = k := by omega
    refine ⟨by rw [List.getD_eq_getElem?_getD, hx]; exact h0, fun hp => ?_⟩
    have hlt : i < s.length := (List.getElem?_eq_some_iff.1 hx).1
    obtain ⟨y, hy⟩ : ∃ y, s[i - 1]? = some y := ⟨_, List.getElem?_eq_getElem (by omega)⟩
    rw [List.getD_eq_getElem?_getD, hx, List.getD_eq_getElem?_getD, hy]
    exact h1 (i - 1) y (by omega) hy
theorem stepsNot_neg {s : List Int} {k m : Nat} {x : Int} (hx : s[k]? = some x) (hk : k < m) (h0 : x < 0) : ¬ StepsOk s m := fun h => by
  have := (h k hk).1
  rw [List.getD_eq_getElem?_getD, hx] at this
  have : 0 ≤ x := this
  omega
theorem stepsNot_same {s : List Int} {k m : Nat} {x : Int} (hx : s[k + 1]? = some x) (hy : s[k]? = some x) (hk : k + 1 < m) : ¬ StepsOk s m := fun h => by
  have := (h (k + 1) hk).2 (by omega)
  rw [List.getD_eq_getElem?_getD, hx, Nat.add_sub_cancel, List.getD_eq_getElem?_getD, hy] at this
  exact this rfl
set_option maxHeartbeats 1000000 in
theorem lvalid_any (v : Value) (R : LvL) (w : World) (h : LvsHas w v R) (hl : R.flatten.length ≤ 100000) (hL : R.length ≤ 100000) :
    Calls Try.prog 29 #[v] w fun e w' => e = .returned (.bool (validL R)) ∧ Below w.heap.size w w' := by
  have H := Lib.hid (lall_any v R w h hl hL)
  obtain ⟨A0, o0, c0, rfl, -, -⟩ := h.form
  unfold IntsOut at H
  clear h
  by_cases hg : 5 < R.length
  · rw [validL_great (Or.inl hg)]
    obtain ⟨n, hn⟩ : ∃ n, n = R.length := ⟨_, rfl⟩
    rw [← hn] at H hg hL ⊢
    clear hn
    generalize R.flatten = l at *
    have q1 : decide ((5 : Int) < (n : Int)) = true := decide_eq_true (by omega)
    have q2 : decide (5 < n) = true := decide_eq_true hg
    clear hl hL
    go_enter Try.func29, Try.ntmps29
    go_wp2_with fail
    refine H.out.mono ?_
    rintro e w' ⟨A, c, rfl, h1, h2⟩
    have H2 := Lib.hid h2
    clear h1 h2
    go_wp2
    go_ret
    exact ⟨rfl, H2.out⟩
  · by_cases hg2 : 40 < R.flatten.length
    · rw [validL_great (Or.inr hg2)]
      obtain ⟨n, hn⟩ : ∃ n, n = R.length := ⟨_, rfl⟩
      rw [← hn] at H hg hL ⊢
      clear hn
      obtain ⟨m, hm⟩ : ∃ m, m = R.flatten.length := ⟨_, rfl⟩
      rw [← hm] at H hg2 hl
      clear hm
      generalize R.flatten = l at *
      have q1 : decide ((5 : Int) < (n : Int)) = false := decide_eq_false (by omega)
      have q2 : decide (5 < n) = false := decide_eq_false (by omega)
      have q3 : decide ((40 : Int) < (m : Int)) = true := decide_eq_true (by omega)
      have q4 : decide (40 < m) = true := decide_eq_true hg2
      clear hl hL hg hg2
      go_enter Try.func29, Try.ntmps29
      go_wp2_with fail
      refine H.out.mono ?_
      rintro e w' ⟨A, c, rfl, h1, h2⟩
      have H2 := Lib.hid h2
      clear h1 h2
      go_wp2
      go_ret
      exact ⟨rfl, H2.out⟩
    · have HV := Lib.hid (validL_steps (R := R) (by omega) (by omega))
      obtain ⟨n, hn⟩ : ∃ n, n = R.length := ⟨_, rfl⟩
      rw [← hn] at H hg hL ⊢
      clear hn
      have HSL := Lib.hid (sortI_length R.flatten)
      have HSO := Lib.hid (fun W A c (hr : IRow W w.heap.size (.slice A R.flatten.length c) R.flatten) => sort_any W w.heap.size R.flatten.length c A R.flatten hr rfl (by omega))
      obtain ⟨m, hm⟩ : ∃ m, m = R.flatten.length := ⟨_, rfl⟩
      rw [← hm] at H hg2 hl HV HSL HSO
      clear hm
      generalize hq : validL R = q at *
      clear hq
      generalize hs : sortI R.flatten = s at *
      clear hs
      generalize R.flatten = l at *
      have q1 : decide ((5 : Int) < (n : Int)) = false := decide_eq_false (by omega)
      have q2 : decide (5 < n) = false := decide_eq_false (by omega)
      have q3 : decide ((40 : Int) < (m : Int)) = false := decide_eq_false (by omega)
      have q4 : decide (40 < m) = false := decide_eq_false (by omega)
      have hm40 : m ≤ 40 := by omega
      clear hl hL hg hg2
      go_enter Try.func29, Try.ntmps29
      go_wp2_with fail
      refine H.out.mono ?_
      rintro e w1 ⟨A, c, rfl, h1, h2⟩
      have H2 := Lib.hid h2
      have HSS := Lib.hid (HSO.out w1 A c h1)
      clear h1 h2
      go_wp2_with fail
      refine HSS.out.mono ?_
      rintro e w2 ⟨rfl, h3, h4⟩
      have HB := Lib.hid (show Below w.heap.size w w2 from H2.out.trans h4)
      have hrow := IRow.in_ h3
      obtain ⟨A', off, cap, ev, -, hc⟩ := hrow.form
      obtain ⟨rfl, -, rfl⟩ := Value.slice.inj ev
      have HC := Lib.hid hc
      clear h3 h4 hrow ev hc
      go_wp2
      go_loopw [20] (fun i wr => ∃ k : Nat, k ≤ m ∧ i = .int .i64 k ∧ StepsOk s k ∧ wr = w2) (fun i _ => m - (intOf i).toNat)
      case atStart => exact ⟨0, Nat.zero_le _, rfl, fun i hi => (by omega), rfl⟩
      case round =>
        obtain ⟨k, hk, rfl, hst, rfl⟩ := hrel
        have HST := Lib.hid hst
        clear hst
        by_cases hlt : k < m
        · have l1 : (k : Int) < (m : Int) := by omega
          obtain ⟨x, hx⟩ : ∃ x, s[k]? = some x := ⟨_, List.getElem?_eq_getElem (by rw [HSL.out]; exact hlt)⟩
          obtain ⟨b, rfl, hb, cx⟩ := HC.out k x hx
          have HX := Lib.hid hx
          clear hx hb
          by_cases h0 : x < 0
          · have HNO := Lib.hid (stepsNot_neg HX.out hlt h0)
            have qf : q = false := by cases q with | true => exact absurd (HV.out.1 rfl) HNO.out | false => rfl
            subst qf
            have q5 : decide (x < 0) = true := decide_eq_true h0
            go_wp2
            go_ret
            exact ⟨rfl, HB.out⟩
          · have q5 : decide (x < 0) = false := decide_eq_false h0
            have h0' : 0 ≤ x := by omega
            cases k with
            | zero =>
              have HN := Lib.hid (stepsOk_succ HST.out HX.out h0' (fun j y e => by omega))
              rw [Nat.add_zero] at cx
              clear h0 h0'
              go_wp2
              refine ⟨⟨1, by omega, rfl, HN.out, trivial⟩, by simp [intOf]; omega⟩
            | succ j =>
              obtain ⟨y, hy⟩ : ∃ y, s[j]? = some y := ⟨_, List.getElem?_eq_getElem (by rw [HSL.out]; omega)⟩
              obtain ⟨b', eb, -, cy⟩ := HC.out j y hy
              obtain rfl : b = b' := by cases eb; rfl
              have HY := Lib.hid hy
              have q6 : decide ((0 : Int) < ((j + 1 : Nat) : Int)) = true := decide_eq_true (by omega)
              have q7 : IntKind.i64.wrap (((j + 1 : Nat) : Int) - 1) = (j : Int) := by rw [IntWalk.i64_in _ ⟨by omega, by omega⟩]; omega
              have q8 : (j : Int) < (m : Int) := by omega
              clear hy eb
              by_cases hxy : x = y
              · subst hxy
                have HNO := Lib.hid (stepsNot_same HX.out HY.out hlt)
                have qf : q = false := by cases q with | true => exact absurd (HV.out.1 rfl) HNO.out | false => rfl
                subst qf
                go_wp2
                go_ret
                exact ⟨rfl, HB.out⟩
              · have HN := Lib.hid (stepsOk_succ HST.out HX.out h0' (fun i z e hz => by
                  obtain rfl : i = j := by omega
                  rw [HY.out] at hz
                  obtain rfl : y = z := by simpa using hz
                  exact hxy))
                have q9 : (x == y) = false := beq_eq_false_iff_ne.2 hxy
                clear h0 h0' hxy
                go_wp2
                refine ⟨⟨j + 1 + 1, by omega, by go_num, HN.out, trivial⟩, by simp [intOf]; omega⟩
        · obtain rfl : k = m := by omega
          have l1 : ¬ (k : Int) < (k : Int) := by omega
          have qt : q = true := HV.out.2 HST.out
          subst qt
          clear hlt
          go_wp2
          go_ret
          exact ⟨rfl, HB.out⟩
end Go.Proofs.Ytcfidpjhemjbjaa

/- All, Has, Valid: the document's. -/
import Derived.Test.YtcfidpjhemjbjaaLvTold
import Derived.BigQuiet
import Derived.Deep.LoopGhost
import Derived.WalkMore
namespace Go.Proofs.Ytcfidpjhemjbjaa
open Go.RowKit Go.Shelf
set_option linter.unusedVariables false
set_option maxRecDepth 100000

set_option maxHeartbeats 1000000 in
theorem rall_any (v : Value) (R : LvL) (w : World) (h : LvsHas w v R) (hl : R.flatten.length ≤ 100000) (hL : R.length ≤ 100000) : Calls Try.prog 32 #[v] w (IntsOut w R.flatten) := by
  have HFL := Lib.hid (flat_le R)
  obtain ⟨A, off, cap, rfl, -, hc⟩ := h.form
  have HC := Lib.hid hc
  obtain ⟨n, hn⟩ : ∃ n, n = R.length := ⟨_, rfl⟩
  have HN := Lib.hid hn
  rw [← hn] at hL ⊢
  obtain ⟨N, hN⟩ : ∃ N, N = R.flatten.length := ⟨_, rfl⟩
  have HNN := Lib.hid hN
  rw [← hN] at hl
  clear h hc hn hN
  unfold IntsOut
  rw [← HNN.out]
  go_enter Try.func32, Try.ntmps32
  go_wp2
  go_loopg [3, 4] n (fun g u i wr => ∃ (j : Nat), j + g = n ∧ i = .int .i64 j ∧ IRow wr w.heap.size u (R.take j).flatten ∧ Below w.heap.size w wr)
  case atStart => exact ⟨0, by omega, rfl, IRow.nil _ _, Below.refl _ _⟩
  case round =>
    obtain ⟨j, hjg, rfl, hrow, hbel⟩ := hrel
    obtain ⟨A3, c3, rfl⟩ := hrow.slice
    have HR3 := Lib.hid hrow
    have HB3 := Lib.hid hbel
    clear hrow hbel
    cases gk with
    | zero =>
      obtain rfl : j = n := by omega
      have s1 : ¬ (j : Int) < (j : Int) := by omega
      have ej : (R.take j) = R := by rw [HN.out]; exact List.take_length
      rw [ej] at HR3 ⊢
      rw [← HNN.out] at HR3 ⊢
      go_wp2
      go_ret
      exact ⟨A3, c3, rfl, by have h := HR3.out; rw [HNN.out] at h; rw [HNN.out]; exact h, HB3.out⟩
    | succ gi =>
      have hjk : j < n := by omega
      have s1 : (j : Int) < (n : Int) := by omega
      obtain ⟨x, hx⟩ : ∃ x, R[j]? = some x := ⟨_, List.getElem?_eq_getElem (by rw [← HN.out]; exact hjk)⟩
      obtain ⟨b, u, rfl, hb, cx, hin⟩ := HC.out j x hx
      have cx2 := (HB3.out.cell (p := ⟨b, off + j, none⟩) hb).trans cx
      have hsum := HFL.out (j + 1)
      rw [flat_succ hx, List.length_append, ← HNN.out] at hsum
      obtain ⟨A4, c4, w2, e1, e2, e3⟩ := row_more HR3.out (hin.below HB3.out (Nat.le_refl _)) (by omega) HB3.out 41
      obtain ⟨A2, o2, c2, rfl, -, -⟩ := hin.form
      have HE2 := Lib.hid (show IRow w2 w.heap.size (.slice A4 ((R.take j).flatten.length + x.length) c4) (R.take (j + 1)).flatten by rw [flat_succ hx]; exact e2)
      have HE3 := Lib.hid e3
      have HE := Lib.hid e1
      clear e1 e2 e3 cx hin hx hsum HR3
      generalize (R.take j).flatten.length = s at *
      generalize x.length = m at *
      go_wp2_with (first | (at_builtin; refine wpList_append_two rfl _ _ rfl rfl rfl HE.out ?_) | fail)
      go_roundg gi
      case measure => omega
      case rel => exact ⟨j + 1, by omega, by go_num, HE2.out, HE3.out⟩
theorem has_any_i (v : Value) (l : List Int) (x : Int) (w : World) (h : IntsIn w v l) (hl : l.length ≤ 1000000) : Calls Try.prog 43 #[v, .int .i64 x] w fun e w' => e = .returned (.bool (decide (x ∈ l))) ∧ w' = w := by
  obtain ⟨A, off, cap, rfl, -, hc⟩ := h.form
  have HC := Lib.hid hc
  obtain ⟨n, hn⟩ : ∃ n, n = l.length := ⟨_, rfl⟩
  have HN := Lib.hid hn
  rw [← hn] at hl ⊢
  clear h hc hn
  obtain ⟨q, hq⟩ : ∃ q, q = decide (x ∈ l) := ⟨_, rfl⟩
  have HQ := Lib.hid hq
  rw [← hq]
  clear hq
  go_enter Try.func43, Try.ntmps43
  go_wp2
  go_loopw [5] (fun i wr => ∃ k : Nat, k ≤ n ∧ i = .int .i64 k ∧ x ∉ l.take k ∧ wr = w) (fun i _ => n - (intOf i).toNat)
  case atStart => exact ⟨0, Nat.zero_le _, rfl, by simp, rfl⟩
  case round =>
    obtain ⟨k, hk, rfl, hnot, rfl⟩ := hrel
    have HNOT := Lib.hid hnot
    clear hnot
    by_cases hlt : k < n
    · have l1 : (k : Int) < (n : Int) := by omega
      obtain ⟨y, hy⟩ : ∃ y, l[k]? = some y := ⟨_, List.getElem?_eq_getElem (by rw [← HN.out]; exact hlt)⟩
      obtain ⟨b, rfl, hb, c1⟩ := HC.out k y hy
      have HY := Lib.hid hy
      clear hy
      by_cases hxy : y = x
      · subst hxy
        have e : (y == y) = true := by simp
        obtain rfl : q = true := by rw [HQ.out]; exact decide_eq_true (List.mem_of_getElem? HY.out)
        go_wp2
        go_ret
        exact ⟨rfl, rfl⟩
      · have e : (y == x) = false := beq_eq_false_iff_ne.2 hxy
        have HNE := Lib.hid hxy
        clear hxy
        go_wp2
        refine ⟨⟨k + 1, by omega, by go_num, ?_, trivial⟩, by simp [intOf]; omega⟩
        rw [List.take_add_one, HY.out]
        intro hm
        rcases List.mem_append.1 hm with hm | hm
        · exact HNOT.out hm
        · exact HNE.out ((show x = y by simpa using hm).symm)
    · obtain rfl : k = n := by omega
      have l1 : ¬ (k : Int) < (k : Int) := by omega
      obtain rfl : q = false := by
        rw [HQ.out]
        refine decide_eq_false ?_
        have h := HNOT.out
        rwa [HN.out, List.take_length] at h
      clear hlt
      go_wp2
      go_ret
      exact ⟨rfl, rfl⟩
theorem rvalidL_great {R : LvL} (h : 5 < R.length ∨ 40 < R.flatten.length) : validL R = false := decide_eq_false fun hm => by have := hm.1; have := hm.2.1; omega
theorem validL_firsts {R : LvL} (h1 : R.length ≤ 5) (h2 : R.flatten.length ≤ 40) : validL R = true ↔ FirstsOk R.flatten R.flatten.length := by
  rw [firstsOk_iff]
  exact ⟨fun e => (of_decide_eq_true e).2.2, fun e => decide_eq_true ⟨h1, h2, e.1, e.2⟩⟩
theorem firstsOk_succ {s : List Int} {k : Nat} {x : Int} (h : FirstsOk s k) (hx : s[k]? = some x) (h0 : 0 ≤ x) (h1 : x ∉ s.take k) : FirstsOk s (k + 1) := by
  intro i y hi hy
  rcases Nat.lt_or_ge i k with c | c
  · exact h i y c hy
  · obtain rfl : i = k := by omega
    rw [hx] at hy
    obtain rfl : x = y := by simpa using hy
    exact ⟨h0, h1⟩
set_option maxHeartbeats 1000000 in
theorem rvalid_any (v : Value) (R : LvL) (w : World) (h : LvsHas w v R) (hl : R.flatten.length ≤ 100000) (hL : R.length ≤ 100000) :
    Calls Try.prog 31 #[v] w fun e w' => e = .returned (.bool (validL R)) ∧ Below w.heap.size w w' := by
  have H := Lib.hid (rall_any v R w h hl hL)
  obtain ⟨A0, o0, c0, rfl, -, -⟩ := h.form
  unfold IntsOut at H
  clear h
  by_cases hg : 5 < R.length
  · rw [rvalidL_great (Or.inl hg)]
    obtain ⟨n, hn⟩ : ∃ n, n = R.length := ⟨_, rfl⟩
    rw [← hn] at H hg hL ⊢
    clear hn
    generalize R.flatten = l at *
    have q1 : decide ((5 : Int) < (n : Int)) = true := decide_eq_true (by omega)
    have q2 : decide (5 < n) = true := decide_eq_true hg
    clear hl hL
    go_enter Try.func31, Try.ntmps31
    go_wp2_with fail
    refine H.out.mono ?_
    rintro e w' ⟨A, c, rfl, h1, h2⟩
    have H2 := Lib.hid h2
    clear h1 h2
    go_wp2
    go_ret
    exact ⟨rfl, H2.out⟩
  · by_cases hg2 : 40 < R.flatten.length
    · rw [rvalidL_great (Or.inr hg2)]
      obtain ⟨n, hn⟩ : ∃ n, n = R.length := ⟨_, rfl⟩
      rw [← hn] at H hg hL ⊢
      clear hn
      obtain ⟨m, hm⟩ : ∃ m, m = R.flatten.length := ⟨_, rfl⟩
      rw [← hm] at H hg2 hl
      clear hm
      generalize R.flatten = l at *
      have q1 : decide ((5 : Int) < (n : Int)) = false := decide_eq_false (by omega)
      have q2 : decide (5 < n) = false := decide_eq_false (by omega)
      have q3 : decide ((40 : Int) < (m : Int)) = true := decide_eq_true (by omega)
      have q4 : decide (40 < m) = true := decide_eq_true hg2
      clear hl hL hg hg2
      go_enter Try.func31, Try.ntmps31
      go_wp2_with fail
      refine H.out.mono ?_
      rintro e w' ⟨A, c, rfl, h1, h2⟩
      have H2 := Lib.hid h2
      clear h1 h2
      go_wp2
      go_ret
      exact ⟨rfl, H2.out⟩
    · have HV := Lib.hid (validL_firsts (R := R) (by omega) (by omega))
      obtain ⟨n, hn⟩ : ∃ n, n = R.length := ⟨_, rfl⟩
      rw [← hn] at H hg hL ⊢
      clear hn
      generalize R.flatten = s at *
      obtain ⟨m, hm⟩ : ∃ m, m = s.length := ⟨_, rfl⟩
      have HM := Lib.hid hm
      rw [← hm] at H hg2 hl HV
      clear hm
      generalize hq : validL R = q at *
      clear hq
      have q1 : decide ((5 : Int) < (n : Int)) = false := decide_eq_false (by omega)
      have q2 : decide (5 < n) = false := decide_eq_false (by omega)
      have q3 : decide ((40 : Int) < (m : Int)) = false := decide_eq_false (by omega)
      have q4 : decide (40 < m) = false := decide_eq_false (by omega)
      have hm40 : m ≤ 40 := by omega
      clear hl hL hg hg2
      go_enter Try.func31, Try.ntmps31
      go_wp2_with fail
      refine H.out.mono ?_
      rintro e w1 ⟨A, c, rfl, h1, h2⟩
      have HB := Lib.hid h2
      have hrow := IRow.in_ (v := .slice A m c) (by rw [HM.out] at h1 ⊢; exact h1)
      have HIN := Lib.hid hrow
      obtain ⟨A', off, cap, ev, -, hc⟩ := hrow.form
      obtain ⟨rfl, -, rfl⟩ := Value.slice.inj ev
      have HC := Lib.hid hc
      clear h1 h2 hrow ev hc
      go_wp2
      go_loopw [4] (fun i wr => ∃ k t : Nat, k ≤ m ∧ i = .int .i64 k ∧ FirstsOk s k ∧ wr = w1.drewN t) (fun i _ => m - (intOf i).toNat)
      case atStart => exact ⟨0, 0, Nat.zero_le _, rfl, fun i x hi => (by omega), rfl⟩
      case round =>
        obtain ⟨k, t, hk, rfl, hst, hwr⟩ := hrel
        have HST := Lib.hid hst
        have HW := Lib.hid hwr
        clear hst
        by_cases hlt : k < m
        · have l1 : (k : Int) < (m : Int) := by omega
          obtain ⟨x, hx⟩ : ∃ x, s[k]? = some x := ⟨_, List.getElem?_eq_getElem (by rw [← HM.out]; exact hlt)⟩
          obtain ⟨b, rfl, hb, cx⟩ := HC.out k x hx
          have cx2 : wr.cell? ⟨b, off + k, none⟩ = some (.int .i64 x) := by rw [hwr]; exact cx
          have hInr : IntsIn wr (.slice (some ⟨b, off, none⟩) m c) s := by rw [hwr]; exact HIN.out
          have HX := Lib.hid hx
          by_cases h0 : x < 0
          · have hno : ¬ FirstsOk s m := fun h => by have := (h k x hlt HX.out).1; omega
            have qf : q = false := by cases q with | true => exact absurd (HV.out.1 rfl) hno | false => rfl
            subst qf
            have q5 : decide (x < 0) = true := decide_eq_true h0
            clear hwr hx hb cx hInr hno
            go_wp2
            go_quiet (fail)
            go_wp2
            go_ret
            exact ⟨rfl, by rw [HW.out]; exact below_drewN (below_drewN HB.out _) _⟩
          · have q5 : decide (x < 0) = false := decide_eq_false h0
            obtain ⟨A5, c5, hs5, hp5⟩ := ints_to hInr (m := k) (by rw [← HM.out]; omega)
            have HH := Lib.hid (fun d => has_any_i (.slice A5 k c5) (s.take k) x (wr.drewN d) (hp5 _ (wr.drewN d) (Nat.le_refl _) (below_drewN (Below.refl _ _) d)) (by rw [List.length_take]; have := HM.out; omega))
            by_cases hm : x ∈ s.take k
            · have hno : ¬ FirstsOk s m := fun h => (h k x hlt HX.out).2 hm
              have qf : q = false := by cases q with | true => exact absurd (HV.out.1 rfl) hno | false => rfl
              subst qf
              rw [decide_eq_true hm] at HH
              clear hwr hx hb cx hInr hno hm hp5 h0
              go_wp2
              go_quiet ((go_at_call 43; exact Calls.quiet_of_same (HH.out _)))
              go_wp2
              go_ret
              exact ⟨rfl, by rw [HW.out]; exact below_drewN (below_drewN HB.out _) _⟩
            · have HN := Lib.hid (firstsOk_succ HST.out HX.out (by omega) hm)
              rw [decide_eq_false hm] at HH
              clear hwr hx hb cx hInr hm hp5 h0
              go_wp2
              go_quiet ((go_at_call 43; exact Calls.quiet_of_same (HH.out _)))
              go_wp2
              exact ⟨⟨k + 1, _, by omega, by go_num, HN.out, by rw [HW.out]; exact World.drewN_drewN _ _ _⟩, by simp [intOf]; omega⟩
        · obtain rfl : k = m := by omega
          have l1 : ¬ (k : Int) < (k : Int) := by omega
          have qt : q = true := HV.out.2 HST.out
          subst qt
          clear hlt hwr
          go_wp2
          go_ret
          exact ⟨rfl, by rw [HW.out]; exact below_drewN HB.out _⟩
end Go.Proofs.Ytcfidpjhemjbjaa

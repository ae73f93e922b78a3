/- slices.Concat of levels, slices.Sort of numbers. -/
import Derived.Test.YtcfidpjhemjbjaaLvLib
namespace Go.Proofs.Ytcfidpjhemjbjaa
open Go.RowKit Go.Shelf
set_option linter.unusedVariables false
set_option maxRecDepth 100000

theorem flat_succ {R : LvL} {k : Nat} {x : List Int} (h : R[k]? = some x) : (R.take (k + 1)).flatten = (R.take k).flatten ++ x := by
  rw [List.take_add_one, h, List.flatten_append]
  simp
theorem flat_le (R : LvL) (k : Nat) : (R.take k).flatten.length ≤ R.flatten.length := by
  conv => rhs; rw [← List.take_append_drop k R, List.flatten_append, List.length_append]
  omega
theorem flat_one {R : LvL} {k : Nat} {x : List Int} (h : R[k]? = some x) : x.length ≤ R.flatten.length := by
  have h1 := flat_le R (k + 1)
  rw [flat_succ h, List.length_append] at h1
  omega
theorem IRow.slice {w : World} {base : Nat} {v : Value} {l : List Int} (h : IRow w base v l) : ∃ A c, v = .slice A l.length c := by
  obtain ⟨A, c, rfl, -⟩ := own_form h
  exact ⟨A, c, rfl⟩
/-- What is laid behind a row, out of a list that lies elsewhere. -/
theorem row_more {w wr : World} {u v : Value} {l m : List Int} (hrow : IRow wr w.heap.size u l) (hin : IntsIn wr v m) (hl : l.length + m.length ≤ 1000000) (hb : Below w.heap.size w wr) (ty : TypeId) :
    ∃ A c w2, (Builtin.append_ #[41, 41] ty #[u, v]).run Try.prog wr = .ok (.slice A (l.length + m.length) c) w2 ∧ IRow w2 w.heap.size (.slice A (l.length + m.length) c) (l ++ m) ∧ Below w.heap.size w w2 := by
  obtain ⟨A, c, w2, e1, e2, e3, -⟩ := ints_append hrow hin hl hb.size ty
  exact ⟨A, c, w2, e1, e2, hb.trans (igrown_below e3 hb.size (fun k hk => (IRow.block hrow k hk).1))⟩
set_option maxHeartbeats 1000000 in
theorem concat_any (v : Value) (R : LvL) (w : World) (h : LvsHas w v R) (hl : R.flatten.length ≤ 100000) (hL : R.length ≤ 100000) : Calls Try.prog 42 #[v] w (IntsOut w R.flatten) := by
  have HG := Lib.hid (grow_any R.flatten.length w (by omega))
  have HFL := Lib.hid (flat_le R)
  have HH := Lib.hid h
  obtain ⟨A, off, cap, rfl, -, hc⟩ := h.form
  have HC := Lib.hid hc
  obtain ⟨n, hn⟩ : ∃ n, n = R.length := ⟨_, rfl⟩
  have HN := Lib.hid hn
  rw [← hn] at hL ⊢
  obtain ⟨N, hN⟩ : ∃ N, N = R.flatten.length := ⟨_, rfl⟩
  have HNN := Lib.hid hN
  rw [← hN] at hl HG
  clear h hc hn hN
  unfold IntsOut
  rw [← HNN.out]
  go_enter Try.func42, Try.ntmps42
  go_wp2
  go_loopw [3, 11] (fun s i wr => ∃ k : Nat, k ≤ n ∧ i = .int .i64 k ∧ s = .int .i64 (((R.take k).flatten.length : Nat) : Int) ∧ wr = w) (fun _ i _ => n - (intOf i).toNat)
  case atStart => exact ⟨0, Nat.zero_le _, rfl, rfl, rfl⟩
  case round =>
    obtain ⟨k, hk, rfl, rfl, rfl⟩ := hrel
    by_cases hlt : k < n
    · have l1 : (k : Int) < (n : Int) := by omega
      obtain ⟨x, hx⟩ : ∃ x, R[k]? = some x := ⟨_, List.getElem?_eq_getElem (by rw [← HN.out]; exact hlt)⟩
      obtain ⟨b, u, rfl, hb, c1, hin⟩ := HC.out k x hx
      obtain ⟨A2, o2, c2, rfl, -, -⟩ := hin.form
      have HS := Lib.hid (show (((R.take (k + 1)).flatten.length : Nat) : Int) = (((R.take k).flatten.length : Nat) : Int) + ((x.length : Nat) : Int) by rw [flat_succ hx, List.length_append]; omega)
      have hle := HFL.out k
      have hxl := flat_one hx
      rw [← HNN.out] at hle hxl
      clear hin hx
      generalize (R.take k).flatten.length = s at *
      generalize x.length = m at *
      have q1 : decide (((s : Int) + (m : Int)) < 0) = false := decide_eq_false (by omega)
      have q2 : IntKind.i64.wrap ((s : Int) + (m : Int)) = (s : Int) + (m : Int) := IntWalk.i64_in _ ⟨by omega, by omega⟩
      go_wp2
      refine ⟨⟨k + 1, by omega, by go_num, by rw [HS.out], trivial⟩, by simp [intOf]; omega⟩
    · obtain rfl : k = n := by omega
      have l1 : ¬ (k : Int) < (k : Int) := by omega
      have ek : (R.take k).flatten.length = N := by rw [HN.out, List.take_length, ← HNN.out]
      rw [ek]
      clear ek hlt
      obtain ⟨w0, rfl⟩ : ∃ w0, w0 = wr := ⟨_, rfl⟩
      go_wp2_with fail
      refine HG.out.mono ?_
      rintro e w1 ⟨A1, c1, rfl, hrow, hb1⟩
      have HROW := Lib.hid hrow
      have HB1 := Lib.hid hb1
      clear hrow hb1
      go_wp2
      go_loopg [6, 27] k (fun g u i wr => ∃ (j : Nat), j + g = k ∧ i = .int .i64 j ∧ IRow wr w0.heap.size u (R.take j).flatten ∧ Below w0.heap.size w0 wr)
      case atStart => exact ⟨0, by omega, rfl, HROW.out, HB1.out⟩
      case round =>
        obtain ⟨j, hjg, rfl, hrow, hbel⟩ := hrel
        obtain ⟨A3, c3, rfl⟩ := hrow.slice
        have HR3 := Lib.hid hrow
        have HB3 := Lib.hid hbel
        clear hrow hbel
        cases gk with
        | zero =>
          obtain rfl : j = k := by omega
          have s1 : ¬ (j : Int) < (j : Int) := by omega
          have ej : (R.take j) = R := by rw [HN.out]; exact List.take_length
          rw [ej] at HR3 ⊢
          rw [← HNN.out] at HR3 ⊢
          go_wp2
          go_ret
          exact ⟨A3, c3, rfl, by have h := HR3.out; rw [HNN.out] at h; rw [HNN.out]; exact h, HB3.out⟩
        | succ gi =>
          have hjk : j < k := by omega
          have s1 : (j : Int) < (k : Int) := by omega
          obtain ⟨x, hx⟩ : ∃ x, R[j]? = some x := ⟨_, List.getElem?_eq_getElem (by rw [← HN.out]; exact hjk)⟩
          obtain ⟨b, u, rfl, hb, cx, hin⟩ := HC.out j x hx
          have cx2 := (HB3.out.cell (p := ⟨b, off + j, none⟩) hb).trans cx
          have hsum := HFL.out (j + 1)
          rw [flat_succ hx, List.length_append, ← HNN.out] at hsum
          obtain ⟨A4, c4, w2, e1, e2, e3⟩ := row_more HR3.out (hin.below HB3.out (Nat.le_refl _)) (by omega) HB3.out 41
          obtain ⟨A2, o2, c2, rfl, -, -⟩ := hin.form
          have HE2 := Lib.hid (show IRow w2 w0.heap.size (.slice A4 ((R.take j).flatten.length + x.length) c4) (R.take (j + 1)).flatten by rw [flat_succ hx]; exact e2)
          have HE3 := Lib.hid e3
          have HE := Lib.hid e1
          clear e1 e2 e3 cx hin hx hsum HR3
          generalize (R.take j).flatten.length = s at *
          generalize x.length = m at *
          go_wp2_with (first | (at_builtin; refine wpList_append_two rfl _ _ rfl rfl rfl HE.out ?_) | fail)
          go_roundg gi
          case measure => omega
          case rel => exact ⟨j + 1, by omega, by go_num, HE2.out, HE3.out⟩
theorem sort_grown (w : World) (os : Array Obj) : Below w.heap.size w (Sort.grow w os) := ⟨rfl, rfl, rfl, by simp, fun k hk => Sort.heap_grow_old w os hk⟩
/-- slices.Sort of a row of a call's own. -/
theorem sort_any (w : World) (base n c : Nat) (A : Option Addr) (l : List Int) (h : IRow w base (.slice A n c) l) (hn : n = l.length) (hl : n ≤ 1000000) :
    Calls Try.prog 41 #[.slice A n c] w fun e w' => e = .returned (.tuple #[]) ∧ IRow w' base (.slice A n c) (sortI l) ∧ Below base w w' := by
  subst hn
  by_cases hv : (Value.slice A l.length c) = .slice none 0 0
  · obtain ⟨rfl, h0, rfl⟩ := Value.slice.inj hv
    have hl0 : l = [] := List.length_eq_zero_iff.1 h0
    subst hl0
    refine (AnyM.slices_Sort_int_none Try.isort none 0 w).mono ?_
    rintro e w' ⟨rfl, rfl⟩
    exact ⟨rfl, by rw [show sortI [] = [] by (unfold sortI; simp)]; exact IRow.nil _ _, Below.refl _ _⟩
  · obtain ⟨g, cap, he, hg, hlt, hn, hm, -, hH⟩ := Lib.holds_of_ownsRow (enc := Value.int .i64) h hv
    obtain ⟨rfl, -, rfl⟩ := Value.slice.inj he
    refine (AnyM.slices_Sort_int Try.isort g 0 c l w hH hlt (by omega)).mono ?_
    rintro e w' ⟨rfl, q, os, rfl⟩
    have h1 := Lib.ownsRow_putRow (enc := Value.int .i64) (q := q) (k := l.length) (ys := sortI l) h (sortI_length l) (Nat.le_refl _)
    rw [List.take_of_length_le (by rw [sortI_length]; exact Nat.le_refl _)] at h1
    have hb := Lib.below_putRow (enc := Value.int .i64) (q := q) (d := (sortI l).toArray) (Below.refl base w) hg
    have hG := sort_grown (Sort.putRow (Value.int .i64) (Sort.ahead w q) g 0 (sortI l).toArray) os
    refine ⟨rfl, ?_, ?_⟩
    · have h2 : IRow (Sort.putRow (Value.int .i64) (Sort.ahead w q) g 0 (sortI l).toArray) base (.slice (some ⟨g, 0, none⟩) l.length c) (sortI l) := by
        unfold IRow
        rw [sortI_length]
        exact h1
      exact IRow.below h2 hG (Nat.le_refl _)
    · exact hb.trans (hG.mono (Nat.le_trans (Nat.le_trans hg (Nat.le_of_lt hlt)) hb.size))
end Go.Proofs.Ytcfidpjhemjbjaa

/- Make: the document's; entries by their versions. -/
import Derived.Test.YtipimfimibnjiaaMdMake
namespace Go.Proofs.Ytipimfimibnjiaa
open Go.RowKit Go.Shelf
set_option linter.unusedVariables false
attribute [local go_sem ↓] Go.wp_at_zero Go.wp_at_succ

set_option maxHeartbeats 2000000 in
set_option maxRecDepth 100000 in
theorem mmake_ref (v : Value) (l : List EntS) (w : World) (hl : EntsIn w v l) (hn : l.length ≤ 10000) :
    Calls Try.prog 11 #[v] w (MidsOut w (midsL l)) := by
  obtain ⟨A0, off, cap, rfl, -, hcell⟩ := hl.form
  have HC := Lib.hid hcell
  have HLE := Lib.hid (show MidsOut w (midsL l) = MidsOut w (midsTo l l.length) from rfl)
  generalize midsL l = R at *
  obtain ⟨n, hnn⟩ : ∃ n, n = l.length := ⟨_, rfl⟩
  have HN := Lib.hid hnn
  rw [← hnn] at hn HLE ⊢
  clear hl hcell hnn
  go_enter Try.func11, Try.ntmps11
  go_wp2
  go_loopw [3, 4] (fun u i wr => ∃ k : Nat, k ≤ n ∧ i = .int .i64 k ∧ (∃ A c, u = .slice A (midsTo l k).length c ∧ MidRow wr w.heap.size (.slice A (midsTo l k).length c) (midsTo l k)) ∧ Below w.heap.size w wr) (fun _ i _ => n - (intOf i).toNat)
  case atStart => exact ⟨0, Nat.zero_le _, rfl, ⟨none, 0, rfl, MidRow.nil _ _⟩, Below.refl _ _⟩
  case round =>
    obtain ⟨k, hk, rfl, ⟨A1, c1, rfl, hrow⟩, hbel⟩ := hrel
    by_cases hlt : k < n
    · have s1 : (k : Int) < (n : Int) := by omega
      obtain ⟨x, hx⟩ : ∃ x, l[k]? = some x := ⟨_, List.getElem?_eq_getElem (by rw [← HN.out]; omega)⟩
      obtain ⟨bk, rfl, hbk, d0, d1, d2⟩ := HC.out k x hx
      have k0 := (hbel.cell (p := ⟨bk, off + k * 3, none⟩) hbk).trans d0
      have k1 := (hbel.cell (p := ⟨bk, off + k * 3 + 1, none⟩) hbk).trans d1
      have k2 := (hbel.cell (p := ⟨bk, off + k * 3 + 2, none⟩) hbk).trans d2
      have hrow2 := hrow
      have hbel2 := hbel
      have e9 : IntKind.i64.wrap ((n : Int) - 1) = (n : Int) - 1 := IntWalk.i64_in _ ⟨by omega, by omega⟩
      have HNo := Lib.hid (mids_no (l := l) (k := k))
      have HIs : isMid l.length k = (decide (k % 8 = 0) || decide (k + 1 = n)) := by rw [HN.out]; rfl
      cases hm : isMid l.length k
      · have t1 : ((k : Int) % 8 == 0) = false := by
          rw [hm] at HIs
          have := (Bool.or_eq_false_iff.1 HIs.symm).1
          have := of_decide_eq_false this
          exact beq_eq_false_iff_ne.2 (by omega)
        have t2 : ((k : Int) == (n : Int) - 1) = false := by
          rw [hm] at HIs
          have := (Bool.or_eq_false_iff.1 HIs.symm).2
          have := of_decide_eq_false this
          exact beq_eq_false_iff_ne.2 (by omega)
        have HEQ := Lib.hid (HNo.out hm)
        have HR2 := Lib.hid hrow2
        have HB2 := Lib.hid hbel2
        have HB := Lib.hid hbel
        generalize midsTo l k = L at *
        clear hx d0 d1 d2 hrow hrow2 hbel hbel2 HIs hm HNo HLE
        obtain ⟨xh, xv, xp⟩ := x
        simp only at k0 k1 k2
        go_wp2
        go_roundw
        case rel => exact ⟨k + 1, by omega, by go_num, by rw [HEQ.out]; exact ⟨A1, c1, rfl, HR2.out⟩, HB2.out⟩
        case measure => simp [intOf]; omega
      · obtain ⟨w', u, e1, e2, e3⟩ := mid_more hrow2 hx hm (by rw [← HN.out]; exact hn) hbel2.size 25 (g := wr.heap.size) rfl
        have HE1 := Lib.hid e1
        have HE2 := Lib.hid e2
        have HE3 := Lib.hid (hbel2.trans e3)
        rw [hm] at HIs
        have hor := Bool.or_eq_true_iff.1 HIs.symm
        obtain ⟨xh, xv, xp⟩ := x
        simp only at k0 k1 k2 HE1
        generalize (midsTo l k).length = ll at *
        by_cases h8 : k % 8 = 0
        · have t1 : ((k : Int) % 8 == 0) = true := beq_iff_eq.2 (by omega)
          clear hx d0 d1 d2 hrow hrow2 hbel hbel2 HIs hm HNo HLE e1 e2 e3 hor
          go_wp2_with (first | (at_builtin; refine wpList_append_two rfl _ _ rfl rfl rfl HE1.out ?_) | fail)
          go_roundw
          case rel => exact ⟨k + 1, by omega, by go_num, HE2.out, HE3.out⟩
          case measure => simp [intOf]; omega
        · have t1 : ((k : Int) % 8 == 0) = false := beq_eq_false_iff_ne.2 (by omega)
          have t2 : ((k : Int) == (n : Int) - 1) = true := by
            rcases hor with q | q
            · exact absurd (of_decide_eq_true q) h8
            · have := of_decide_eq_true q
              exact beq_iff_eq.2 (by omega)
          clear hx d0 d1 d2 hrow hrow2 hbel hbel2 HIs hm HNo HLE e1 e2 e3 hor
          go_wp2_with (first | (at_builtin; refine wpList_append_two rfl _ _ rfl rfl rfl HE1.out ?_) | fail)
          go_roundw
          case rel => exact ⟨k + 1, by omega, by go_num, HE2.out, HE3.out⟩
          case measure => simp [intOf]; omega
    · obtain rfl : k = n := by omega
      have s1 : ¬ (k : Int) < (k : Int) := by omega
      have HE2 := Lib.hid (show MidsOut w R (.returned (.slice A1 (midsTo l k).length c1)) wr by rw [HLE.out]; exact ⟨A1, c1, rfl, hrow, hbel⟩)
      clear hlt hrow HLE
      generalize midsTo l k = L at *
      go_wp2
      go_ret
      exact HE2.out

/-- So many entries of the hash 0, by their versions. -/
def rowE (n : Nat) : List EntS := (List.range n).map fun i => ⟨0, (i : Nat), 0⟩
theorem rowE_succ (k : Nat) : rowE (k + 1) = rowE k ++ [⟨0, (k : Nat), 0⟩] := by unfold rowE; rw [List.range_succ, List.map_append]; rfl
theorem rowE_length (n : Nat) : (rowE n).length = n := by unfold rowE; rw [List.length_map, List.length_range]
theorem row_more {w : World} {base k : Nat} {v : Value} (hrow : EntRow w base v (rowE k)) (hk : k ≤ 10000) (hb : base ≤ w.heap.size) (ty : TypeId) :
    ∃ w' u, (Builtin.append_ #[22, 22] ty #[v, .slice (some ⟨w.heap.size, 0, none⟩) 1 1]).run Try.prog (w.alloc (.cells #[.int .u64 0, .int .i64 (k : Nat), .int .i64 0] 29)) = .ok u w' ∧
      (∃ A c, u = .slice A (k + 1) c ∧ EntRow w' base (.slice A (k + 1) c) (rowE (k + 1))) ∧ Below base w w' := by
  have h := ents_append (EntRow.alloc hrow (.cells #[.int .u64 0, .int .i64 (k : Nat), .int .i64 0] 29)) (ent_one w ⟨0, (k : Nat), 0⟩) (by rw [rowE_length]; simp; omega) (by simp; omega) ty
  rw [← rowE_succ, rowE_length] at h
  obtain ⟨A, c, w', e1, e2, e3, -⟩ := h
  refine ⟨w', _, e1, ⟨A, c, rfl, e2⟩, ?_⟩
  exact ((Below.refl base w).alloc hb _).trans (grown_below e3 (by simp; omega) (EntRow.block hrow))
set_option maxHeartbeats 2000000 in
set_option maxRecDepth 100000 in
theorem row_run (n : Nat) (w : World) (hn : n ≤ 10000) :
    Calls Try.prog 16 #[.int .i64 (n : Nat)] w (EntsOut w (rowE n)) := by
  unfold EntsOut
  rw [rowE_length]
  go_enter Try.func16, Try.ntmps16
  go_wp2
  go_loopw [3, 4] (fun u i wr => ∃ k : Nat, k ≤ n ∧ i = .int .i64 k ∧ (∃ A c, u = .slice A k c ∧ EntRow wr w.heap.size (.slice A k c) (rowE k)) ∧ Below w.heap.size w wr) (fun _ i _ => n - (intOf i).toNat)
  case atStart => exact ⟨0, Nat.zero_le _, rfl, ⟨none, 0, rfl, EntRow.nil _ _⟩, Below.refl _ _⟩
  case round =>
    obtain ⟨k, hk, rfl, ⟨A1, c1, rfl, hrow⟩, hbel⟩ := hrel
    by_cases hlt : k < n
    · have s1 : (k : Int) < (n : Int) := by omega
      obtain ⟨w', u, e1, e2, e3⟩ := row_more hrow (by omega) hbel.size 22
      have HE1 := Lib.hid e1
      have HE2 := Lib.hid e2
      have HE3 := Lib.hid (hbel.trans e3)
      clear hrow hbel e1 e2 e3
      go_wp2_with (first | (at_builtin; refine wpList_append_two rfl _ _ rfl rfl rfl HE1.out ?_) | fail)
      go_roundw
      case rel => exact ⟨k + 1, by omega, by go_num, HE2.out, HE3.out⟩
      case measure => simp [intOf]; omega
    · obtain rfl : k = n := by omega
      have s1 : ¬ (k : Int) < (k : Int) := by omega
      have HR := Lib.hid hrow
      clear hlt hrow
      go_wp2
      go_ret
      exact ⟨A1, c1, rfl, HR.out, hbel⟩
end Go.Proofs.Ytipimfimibnjiaa

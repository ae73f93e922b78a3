/- MdMake -/
import Derived.Test.YtmbhafabphogdaaGreatRk29
import Derived.Test.YtmbhafabphogdaaGreatRk32
import Derived.Deep.CutBlock
import Derived.Deep.DeepCutAuto
import Derived.Deep.DrawnRows
/- MdMake -/
namespace Go.Proofs.YtmbhafabphogdaaGreat
open Go.RowKit Go.Shelf
set_option linter.unusedVariables false
set_option maxRecDepth 100000
attribute [local go_sem ↓] Go.wp_at_zero Go.wp_at_succ

def MidsOut (w : World) (l : List MidS) (e : Ending) (w' : World) : Prop := ∃ A c, e = .returned (.slice A l.length c) ∧ MidRow w' w.heap.size (.slice A l.length c) l ∧ Below w.heap.size w w'
theorem MidRow.shape {w : World} {base : Nat} {v : Value} {l : List MidS} (h : MidRow w base v l) : ∃ A c, v = .slice A l.length c ∧ MidRow w base (.slice A l.length c) l := by
  obtain ⟨A, c, rfl, -, -, -⟩ := own_form h
  exact ⟨A, c, rfl, h⟩
/-- What is appended: one more. -/
theorem mid_more {w : World} {base k : Nat} {v : Value} {l : List EntS} {x : EntS} (hrow : MidRow w base v (midsTo l k)) (hx : l[k]? = some x) (hm : isMid l.length k = true) (hn : l.length ≤ 10000) (hb : base ≤ w.heap.size) (ty : TypeId) {g : Nat} (hg : w.heap.size = g) :
    ∃ w' u, (Builtin.append_ #[76, 76] ty #[v, .slice (some ⟨g, 0, none⟩) 1 1]).run Tryz.prog (w.alloc (.cells #[.int .u64 (x.h : Nat), .int .i64 x.v, .int .i64 x.p, .int .i64 (k : Nat)] 135)) = .ok u w' ∧
      (∃ A c, u = .slice A (midsTo l (k + 1)).length c ∧ MidRow w' base (.slice A (midsTo l (k + 1)).length c) (midsTo l (k + 1))) ∧ Below base w w' := by
  subst hg
  have hk : k < l.length := (List.getElem?_eq_some_iff.1 hx).1
  have hlen := midsTo_length l k
  have h := mids_append (MidRow.alloc hrow (.cells #[.int .u64 (x.h : Nat), .int .i64 x.v, .int .i64 x.p, .int .i64 (k : Nat)] 135)) (mid_one w ⟨x, (k : Nat)⟩) (by simp; omega) (by simp; omega) ty
  rw [← mids_yes hx hm] at h
  obtain ⟨A, c, w', e1, e2, e3, -⟩ := h
  have e4 : (midsTo l k).length + [(⟨x, (k : Nat)⟩ : MidS)].length = (midsTo l (k + 1)).length := by rw [mids_yes hx hm, List.length_append]
  rw [e4] at e1 e2
  refine ⟨w', _, e1, ⟨A, c, rfl, e2⟩, ?_⟩
  exact ((Below.refl base w).alloc hb _).trans (grown_below e3 (by simp; omega) (MidRow.block hrow))
set_option maxHeartbeats 2000000 in
set_option maxRecDepth 100000 in
theorem mmake_any (v : Value) (l : List EntS) (w : World) (hl : EntsIn w v l) (hn : l.length ≤ 10000) :
    Calls Tryz.prog 41 #[v] w (MidsOut w (midsL l)) := by
  obtain ⟨A0, off, cap, rfl, -, hcell⟩ := hl.form
  have HC := Lib.hid hcell
  have HLE := Lib.hid (show MidsOut w (midsL l) = MidsOut w (midsTo l l.length) from rfl)
  generalize midsL l = R at *
  obtain ⟨n, hnn⟩ : ∃ n, n = l.length := ⟨_, rfl⟩
  have HN := Lib.hid hnn
  rw [← hnn] at hn HLE ⊢
  clear hl hcell hnn
  go_enter Tryz.func41, Tryz.ntmps41
  go_wp2
  go_loopw [3, 8] (fun u i wr => ∃ k : Nat, k ≤ n ∧ i = .int .i64 k ∧ (∃ A c, u = .slice A (midsTo l k).length c ∧ MidRow wr w.heap.size (.slice A (midsTo l k).length c) (midsTo l k)) ∧ Below w.heap.size w wr) (fun _ i _ => n - (intOf i).toNat)
  case atStart => exact ⟨0, Nat.zero_le _, rfl, ⟨none, 0, rfl, MidRow.nil _ _⟩, Below.refl _ _⟩
  case round =>
    obtain ⟨k, hk, rfl, ⟨A1, c1, rfl, hrow⟩, hbel⟩ := hrel
    by_cases hlt : k < n
    · have s1 : (k : Int) < (n : Int) := by omega
      obtain ⟨x, hx⟩ : ∃ x, l[k]? = some x := ⟨_, List.getElem?_eq_getElem (by rw [← HN.out]; omega)⟩
      obtain ⟨bk, rfl, hbk, d0, d1, d2⟩ := HC.out k x hx
      have k0 := (hbel.cell (p := ⟨bk, off + k * 3, none⟩) hbk).trans d0
      have k1 := (hbel.cell (p := ⟨bk, off + k * 3 + 1, none⟩) hbk).trans d1
      have k2 := (hbel.cell (p := ⟨bk, off + k * 3 + 2, none⟩) hbk).trans d2
      have hrow2 := MidRow.alloc hrow (.cells #[.int .u64 (x.h : Nat), .int .i64 x.v, .int .i64 x.p] 56)
      have hbel2 := hbel.alloc hbel.size (.cells #[.int .u64 (x.h : Nat), .int .i64 x.v, .int .i64 x.p] 56)
      have e9 : IntKind.i64.wrap ((n : Int) - 1) = (n : Int) - 1 := IntWalk.i64_in _ ⟨by omega, by omega⟩
      have HNo := Lib.hid (mids_no (l := l) (k := k))
      have HIs : isMid l.length k = (decide (k % 8 = 0) || decide (k + 1 = n)) := by rw [HN.out]; rfl
      cases hm : isMid l.length k
      · have t1 : ((k : Int) % 8 == 0) = false := by
          rw [hm] at HIs
          have := (Bool.or_eq_false_iff.1 HIs.symm).1
          have := of_decide_eq_false this
          exact beq_eq_false_iff_ne.2 (by omega)
        have t2 : ((k : Int) == (n : Int) - 1) = false := by
          rw [hm] at HIs
          have := (Bool.or_eq_false_iff.1 HIs.symm).2
          have := of_decide_eq_false this
          exact beq_eq_false_iff_ne.2 (by omega)
        have HEQ := Lib.hid (HNo.out hm)
        have HR2 := Lib.hid hrow2
        have HB2 := Lib.hid hbel2
        have HB := Lib.hid hbel
        generalize midsTo l k = L at *
        clear hx d0 d1 d2 hrow hrow2 hbel hbel2 HIs hm HNo HLE
        obtain ⟨xh, xv, xp⟩ := x
        simp only at k0 k1 k2
        go_wp2
        go_roundw
        case rel => exact ⟨k + 1, by omega, by go_num, by rw [HEQ.out]; exact ⟨A1, c1, rfl, HR2.out⟩, HB2.out⟩
        case measure => simp [intOf]; omega
      · obtain ⟨w', u, e1, e2, e3⟩ := mid_more hrow2 hx hm (by rw [← HN.out]; exact hn) hbel2.size 76 (g := wr.heap.size + 1) (by simp)
        have HE1 := Lib.hid e1
        have HE2 := Lib.hid e2
        have HE3 := Lib.hid (hbel2.trans e3)
        rw [hm] at HIs
        have hor := Bool.or_eq_true_iff.1 HIs.symm
        obtain ⟨xh, xv, xp⟩ := x
        simp only at k0 k1 k2 HE1
        generalize (midsTo l k).length = ll at *
        by_cases h8 : k % 8 = 0
        · have t1 : ((k : Int) % 8 == 0) = true := beq_iff_eq.2 (by omega)
          clear hx d0 d1 d2 hrow hrow2 hbel hbel2 HIs hm HNo HLE e1 e2 e3 hor
          go_wp2_with (first | (at_builtin; refine wpList_append_two rfl _ _ rfl rfl rfl HE1.out ?_) | fail)
          go_roundw
          case rel => exact ⟨k + 1, by omega, by go_num, HE2.out, HE3.out⟩
          case measure => simp [intOf]; omega
        · have t1 : ((k : Int) % 8 == 0) = false := beq_eq_false_iff_ne.2 (by omega)
          have t2 : ((k : Int) == (n : Int) - 1) = true := by
            rcases hor with q | q
            · exact absurd (of_decide_eq_true q) h8
            · have := of_decide_eq_true q
              exact beq_iff_eq.2 (by omega)
          clear hx d0 d1 d2 hrow hrow2 hbel hbel2 HIs hm HNo HLE e1 e2 e3 hor
          go_wp2_with (first | (at_builtin; refine wpList_append_two rfl _ _ rfl rfl rfl HE1.out ?_) | fail)
          go_roundw
          case rel => exact ⟨k + 1, by omega, by go_num, HE2.out, HE3.out⟩
          case measure => simp [intOf]; omega
    · obtain rfl : k = n := by omega
      have s1 : ¬ (k : Int) < (k : Int) := by omega
      have HE2 := Lib.hid (show MidsOut w R (.returned (.slice A1 (midsTo l k).length c1)) wr by rw [HLE.out]; exact ⟨A1, c1, rfl, hrow, hbel⟩)
      clear hlt hrow HLE
      generalize midsTo l k = L at *
      go_wp2
      go_ret
      exact HE2.out
end Go.Proofs.YtmbhafabphogdaaGreat

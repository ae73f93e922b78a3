/- The walk of annalistlaw06.DiskCrash, over what a disk answers. -/
import Derived.Test.YtfpimebamkmjoaaDiskSinks
import Derived.Test.YtfpimebamkmjoaaDiskInts
import Derived.Test.YtfpimebamkmjoaaDiskOne
namespace Go.Proofs.Ytfpimebamkmjoaa
open Go.RowKit
set_option linter.unusedVariables false

/-- A list of numbers is told; the disk is alive. -/
def LooseEnd (At : Lies) (w0 : World) (g : Nat) (l : List Int) (D : DiskS) (e : Ending) (w' : World) : Prop := ∃ v, e = .returned v ∧ IntsIn w' v l ∧ Live At w0 g D w'
theorem unsynced_l {At : Lies} (api : DiskApi At) {w0 w : World} {g : Nat} {D : DiskS} (h : Live At w0 g D w) (ho : RefOk D) {l : List Int} (hl : looseL D.l = l) : Calls Try.prog 26 #[ptr g] w (LooseEnd At w0 g l D) := by
  obtain ⟨F, h1, ht⟩ := h
  subst hl
  refine (api.unsynced h1 ho.prog).mono ?_
  rintro e w' ⟨F', v, e1, e2, e3, e4, e5, e6⟩
  exact ⟨v, e1, e2, F', e4, ht.trans e6 (fun x hx => Or.inr (api.low h1 x hx).1)⟩
/-- Ints of what is told and of a list of one. -/
theorem ints_lit {At : Lies} (api : DiskApi At) {w0 w : World} {g : Nat} {D : DiskS} (h : Live At w0 g D w) (v : Value) (l : List Int) (hv : IntsIn w v l) (x : Int) {b : Bool} (hb : decide (l = [x]) = b) :
    Calls Try.prog 15 #[v, .slice (some ⟨w.heap.size, 0, none⟩) 1 1] (w.alloc (.cells #[.int .i64 x] 3)) (LiveEnd At w0 g (.bool b) D) := by
  subst hb
  refine (ints_any v _ l [x] _ (hv.touch ((Touch.refl [] w).alloc _) (fun _ _ => by simp)) (ints_one w x).in_).mono ?_
  rintro e w' ⟨he, n, rfl⟩
  exact ⟨he, (h.alloc api _).drewN api n⟩

theorem min_i {P : Program} (x y : Int) (m : Nat) (h : (m : Int) = if y < x then y else x) : ∀ ts t w, (Builtin.min_ ts t #[.int .i64 x, .int .i64 y]).run P w = .ok (.int .i64 (m : Nat)) w := fun ts t w => by
  rw [run_min_int2, h]
/-- What stays of a file, behind a crash. -/
def stayX (s l : ByteArray) (m : Nat) : ByteArray := s ++ l.extract 0 m
theorem stay_first (s l : ByteArray) (k : Int) : (s ++ l).extract 0 (s.size + min k.toNat ((s ++ l).size - s.size)) = stayX s l (min k.toNat l.size) := by
  have e : (s ++ l).size - s.size = l.size := by rw [ByteArray.size_append]; omega
  rw [e]
  unfold stayX
  apply ByteArray.ext
  apply Array.ext'
  have h1 : min k.toNat l.size ≤ l.size := Nat.min_le_right _ _
  generalize min k.toNat l.size = m at *
  have hs : s.data.toList.length = s.size := Array.length_toList
  simp [ByteArray.data_append, ByteArray.data_extract, Array.toList_extract, List.extract]
  exact List.take_of_length_le (by omega)
theorem stays_size (s l : ByteArray) (m : Nat) (h : m ≤ l.size) : (stayX s l m).size = s.size + m := by
  unfold stayX
  rw [ByteArray.size_append, ByteArray.size_extract]
  omega

abbrev nameF : ByteArray := ⟨#[102]⟩
/-- The disk at the beginning of a turn, and when it has crashed in it. -/
def turnP (s l X : ByteArray) (k : Nat) : DiskS := if k = 0 then oneS nameF (s ++ l) s.size 0 false 0 0 [] else oneS nameF X X.size k false k 0 []
def turnT (X : ByteArray) (k : Nat) : DiskS := oneS nameF X X.size k true k 0 []
def turnU (X : ByteArray) (k : Nat) : DiskS := oneS nameF X X.size k false (k + 1) 0 []
section
variable {s l X : ByteArray} {k : Nat} {keep : Int}
theorem turn_crash (hX : stayX s l (min keep.toNat l.size) = X) : crashS (turnP s l X k) [keep] = (0, turnT X k) := by
  unfold turnP turnT
  by_cases h : k = 0
  · subst h
    rw [if_pos rfl, one_crash, one_sink]
    have e1 : (s ++ l).extract 0 (s.size + min (([keep] : List Int).getD 0 0).toNat ((s ++ l).size - s.size)) = X := (stay_first s l keep).trans hX
    have e2 : s.size + min (([keep] : List Int).getD 0 0).toNat ((s ++ l).size - s.size) = X.size := by
      have h1 := stays_size s l (min keep.toNat l.size) (Nat.min_le_right _ _)
      rw [hX] at h1
      rw [h1, ByteArray.size_append, Nat.add_sub_cancel_left]
      rfl
    rw [e1, e2]
  · rw [if_neg h, one_crash, one_sink]
    have e2 : X.size + min (([keep] : List Int).getD 0 0).toNat (X.size - X.size) = X.size := by omega
    rw [e2, ByteArray.extract_zero_size]
theorem turn_ok (h1 : (s ++ l).size ≤ 5000) (h2 : X.size ≤ 5000) : RefOk (turnP s l X k) := by
  unfold turnP
  by_cases h : k = 0
  · rw [if_pos h]
    exact one_ok (by rw [ByteArray.size_append]; omega) h1 (by decide)
  · rw [if_neg h]
    exact one_ok (Nat.le_refl _) h2 (by decide)
theorem turnT_ok (h2 : X.size ≤ 5000) : RefOk (turnT X k) := one_ok (Nat.le_refl _) h2 (by decide)
theorem turnU_ok (h2 : X.size ≤ 5000) : RefOk (turnU X k) := one_ok (Nat.le_refl _) h2 (by decide)
theorem turn_read : readS (turnU X k) nameF 0 (X.size : Nat) = (X, 0, turnP s l X (k + 1)) := by
  unfold turnU turnP
  rw [if_neg (by omega), one_read X.size rfl]
end
theorem made_f : createS (newS 5000) nameF = (0, oneS nameF ByteArray.empty 0 0 false 0 0 []) := rfl
theorem wf_small {n : Int} (h1 : -1000000 ≤ n) (h2 : n ≤ 1000000) : (Lit.int .i64 n).wf = true := WalkArith.wf_i64 (by omega)

set_option maxRecDepth 100000 in
set_option maxHeartbeats 8000000 in
theorem crash_walk {At : Lies} (api : DiskApi At) (a0 a1 : ByteArray) (a2 : Int) (w0 : a0.size ≤ maxLen) (w1 : a1.size ≤ maxLen) (w2 : (Lit.int .i64 a2).wf = true) (w : World) :
    Calls Try.prog 5 #[.string a0, .string a1, .int .i64 a2] w fun e w' => e = .returned (.bool true) ∧ Below w.heap.size w w' := by
  unfold maxLen at w0 w1
  by_cases h0 : 2000 < a0.size
  · have t0 : decide ((2000 : Int) < (a0.size : Int)) = true := decide_eq_true (by omega)
    clear h0
    go_enter Try.func5, Try.ntmps5
    go_wp2_with fail
    refine (sinks_true api w).mono ?_
    rintro e w' ⟨rfl, hb⟩
    go_wp2
    go_ret
    exact ⟨rfl, hb⟩
  have t0 : decide ((2000 : Int) < (a0.size : Int)) = false := decide_eq_false (by omega)
  by_cases h1 : 2000 < a1.size
  · have t1 : decide ((2000 : Int) < (a1.size : Int)) = true := decide_eq_true (by omega)
    clear h0 h1
    go_enter Try.func5, Try.ntmps5
    go_wp2_with fail
    refine (sinks_true api w).mono ?_
    rintro e w' ⟨rfl, hb⟩
    go_wp2
    go_ret
    exact ⟨rfl, hb⟩
  have t1 : decide ((2000 : Int) < (a1.size : Int)) = false := decide_eq_false (by omega)
  have hsz : (a0 ++ a1).size ≤ 5000 := by rw [ByteArray.size_append]; omega
  obtain ⟨X, hX⟩ : ∃ X, stayX a0 a1 (min a2.toNat a1.size) = X := ⟨_, rfl⟩
  have hXs : X.size ≤ 5000 := by rw [← hX, stays_size _ _ _ (Nat.min_le_right _ _)]; omega
  have hmax : ∀ ts t w, (Builtin.max_ ts t #[.int .i64 a2, .int .i64 0]).run Try.prog w = .ok (.int .i64 (a2.toNat : Nat)) w := fun ts t w => by
    rw [run_max_int2]
    congr 2
    split <;> omega
  have hmin := @min_i Try.prog (a2.toNat : Nat) a1.size (min a2.toNat a1.size) (by split <;> omega)
  have hml : ((min a2.toNat a1.size : Nat) : Int) ≤ (a1.size : Int) := by omega
  have hadd : ∀ wx : World, (Op.stringOp .add a0 (a1.extract 0 (min a2.toNat a1.size))).run Try.prog wx = .ok (.string X) wx := fun wx => by
    rw [← hX]
    exact run_string_add_sum (P := Try.prog) (w := wx) a0 _ (by rw [ByteArray.size_extract]; omega)
  have HCR := Lib.hid (fun k => turn_crash (k := k) hX)
  have HOK := Lib.hid (fun k => turn_ok (k := k) hsz hXs)
  have HXS := Lib.hid hXs
  have HSZ := Lib.hid hsz
  have HA0 := Lib.hid h0
  have HA1 := Lib.hid h1
  have HW2 := Lib.hid w2
  clear h0 h1 hX hsz hXs w2
  generalize min a2.toNat a1.size = m at *
  generalize a2.toNat = q at *
  go_enter Try.func5, Try.ntmps5
  go_wp2_with fail
  refine (new_l api w 5000 (by decide)).mono ?_
  rintro e w1 ⟨g, rfl, hL0⟩
  go_wp2_with fail
  refine (create_l api nameF hL0 (ok_of (by decide +kernel)) (by decide) (r := 0) rfl (E := oneS nameF ByteArray.empty 0 0 false 0 0 []) rfl).mono ?_
  rintro e w1 ⟨rfl, hL1⟩
  clear hL0
  go_wp2_with fail
  refine (append_l api nameF a0 hL1 (one_ok (Nat.zero_le _) (by decide) (by decide)) (by have := HA0.out; omega) (r := 0) (by rw [one_append (by have := HA0.out; show 0 + _ ≤ _; omega) (by decide)]) (E := oneS nameF a0 0 0 false 0 0 []) (by rw [one_append (by have := HA0.out; show 0 + _ ≤ _; omega) (by decide), ByteArray.empty_append])).mono ?_
  rintro e w1 ⟨rfl, hL2⟩
  clear hL1
  go_wp2_with fail
  refine (sync_l api nameF hL2 (one_ok (Nat.zero_le _) (by have := HA0.out; omega) (by decide)) (r := 0) (by rw [one_sync (by decide)]) (E := oneS nameF a0 a0.size 0 false 0 0 []) (by rw [one_sync (by decide)])).mono ?_
  rintro e w1 ⟨rfl, hL3⟩
  clear hL2
  go_wp2_with fail
  refine (append_l api nameF a1 hL3 (one_ok (Nat.le_refl _) (by have := HA0.out; omega) (by decide)) (by have := HA1.out; omega) (r := 0) (by rw [one_append (by have := HA0.out; have := HA1.out; omega) (by decide)]) (E := turnP a0 a1 X 0) (by rw [one_append (by have := HA0.out; have := HA1.out; omega) (by decide)]; rfl)).mono ?_
  rintro e w1 ⟨rfl, hL4⟩
  clear hL3
  go_wp2_with fail
  refine (unsynced_l api hL4 (HOK.out 0) (l := [(a1.size : Int)]) (by show [((a0 ++ a1).size : Int) - a0.size] = _; rw [ByteArray.size_append]; congr 1; omega)).mono ?_
  rintro e w1 ⟨v, rfl, hv, hL5⟩
  clear hL4
  obtain ⟨vA, vo, vc, rfl, _, _⟩ := hv.cell
  have HV := Lib.hid hv
  clear hv
  go_wp2_with fail
  refine (ints_lit api hL5 _ _ HV.out (a1.size : Int) (b := true) (by simp)).mono ?_
  rintro e w1 ⟨rfl, hL6⟩
  clear hL5 HV
  go_wp2_with fail
  have HL6 := Lib.hid hL6
  clear hL6
  go_loopw [10] (fun i wr => ∃ k : Nat, k ≤ 2 ∧ i = .int .i64 k ∧ Live At w g (turnP a0 a1 X k) wr) (fun i _ => 2 - (intOf i).toNat)
  case atStart => exact ⟨0, by omega, rfl, HL6.out⟩
  case round =>
    obtain ⟨k, hk, rfl, hL0⟩ := hrel
    by_cases hlt : k < 2
    · have l1 : (k : Int) < 2 := by omega
      go_wp2_with fail
      refine (crash_one api a2 hL0 (HOK.out k) (r := 0) (by rw [HCR.out k]) (E := turnT X k) (by rw [HCR.out k])).mono ?_
      rintro e w2 ⟨rfl, hL1⟩
      clear hL0
      go_wp2_with fail
      refine (up_l api hL1 (turnT_ok HXS.out) (b := false) rfl).mono ?_
      rintro e w2 ⟨rfl, hL2⟩
      clear hL1
      go_wp2_with fail
      refine (crash_none api hL2 (turnT_ok HXS.out) (r := 61) (by unfold turnT; rw [one_crash_down]) (E := turnT X k) (by unfold turnT; rw [one_crash_down])).mono ?_
      rintro e w2 ⟨rfl, hL3⟩
      clear hL2
      go_wp2_with fail
      refine (append_l api nameF _ hL3 (turnT_ok HXS.out) (by decide) (r := 61) (by unfold turnT; rw [one_append_down]) (E := turnT X k) (by unfold turnT; rw [one_append_down])).mono ?_
      rintro e w2 ⟨rfl, hL4⟩
      clear hL3
      go_wp2_with fail
      refine (start_l api hL4 (turnT_ok HXS.out) (by show k ≤ _; omega) (r := 0) (by unfold turnT; rw [one_start]) (E := turnU X k) (by unfold turnT; rw [one_start]; rfl)).mono ?_
      rintro e w2 ⟨rfl, hL5⟩
      clear hL4
      go_wp2_with fail
      refine (read_l api nameF 0 (X.size : Nat) hL5 (turnU_ok HXS.out) (by show k ≤ _; omega) rfl (wf_small (by omega) (by have := HXS.out; omega)) (t := X) (by rw [turn_read (s := a0) (l := a1)]) (r := 0) (by rw [turn_read (s := a0) (l := a1)]) (E := turnP a0 a1 X (k + 1)) (by rw [turn_read (s := a0) (l := a1)])).mono ?_
      rintro e w2 ⟨rfl, hL6⟩
      clear hL5
      have hsz : sizeS (turnP a0 a1 X (k + 1)) nameF = (X.size, 0) := by unfold turnP; rw [if_neg (by omega)]; exact one_size
      have hlo : looseL (turnP a0 a1 X (k + 1)).l = [0] := by unfold turnP; rw [if_neg (by omega), one_loose]; congr 1; omega
      have HZ := Lib.hid hsz
      have HLO := Lib.hid hlo
      clear hsz hlo
      go_wp2_with fail
      refine (size_l api nameF hL6 (HOK.out (k + 1)) (m := X.size) (r := 0) (by rw [HZ.out]) (by rw [HZ.out])).mono ?_
      rintro e w2 ⟨rfl, hL7⟩
      clear hL6
      have hxx := str_eq X
      go_wp2_with fail
      refine (unsynced_l api hL7 (HOK.out (k + 1)) (l := [0]) HLO.out).mono ?_
      rintro e w2 ⟨v, rfl, hv, hL8⟩
      clear hL7
      obtain ⟨vA2, vo2, vc2, rfl, _, _⟩ := hv.cell
      have HV := Lib.hid hv
      clear hv
      go_wp2_with fail
      refine (ints_lit api hL8 _ _ HV.out 0 (b := true) (by simp)).mono ?_
      rintro e w2 ⟨rfl, hL9⟩
      clear hL8 HV
      have HL9 := Lib.hid hL9
      clear hL9
      go_wp2
      go_roundw
      case rel => exact ⟨k + 1, by omega, by go_num, HL9.out⟩
      case measure => simp [intOf]; omega
    · obtain rfl : k = 2 := by omega
      have HB := Lib.hid (Live.below hL0)
      clear hL0 hlt
      go_wp2_with fail
      refine (sinks_true api wr).mono ?_
      rintro e w2 ⟨rfl, hb⟩
      have HB2 := Lib.hid hb
      clear hb
      go_wp2
      go_ret
      exact ⟨rfl, HB.out.trans (HB2.out.mono HB.out.size)⟩
end Go.Proofs.Ytfpimebamkmjoaa

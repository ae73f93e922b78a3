/- The program's Load: what the head says, and the pages that are whole. -/
import Derived.Test.YtfnppmiapjhjlaaPgMay
import Derived.Test.YtfnppmiapjhjlaaPgPut
import Derived.Test.YtfnppmiapjhjlaaPgPage
import Derived.Test.YtfnppmiapjhjlaaNumsGet
import Derived.Deep.RegionHeld3
import Derived.BigQuiet
namespace Go.Proofs.Ytfnppmiapjhjlaa
open Go.RowKit
set_option linter.unusedVariables false

theorem get1 (t : ByteArray) (h : 64 ≤ t.size) : getS (t.extract 3 4) = hpT t := by
  have e : (t.extract 3 4).data.toList = [t.data.toList.getD 3 0] := by
    rw [ext_list, List.drop_eq_getElem_cons (by rw [dl_size]; omega), List.getD_eq_getElem?_getD, List.getElem?_eq_getElem (by rw [dl_size]; omega)]
    rfl
  unfold getS hpT
  rw [e]
  simp [un]
theorem hpT_lt (t : ByteArray) : hpT t < 256 := UInt8.toNat_lt _
theorem hnT_lt (t : ByteArray) : hnT t < 4294967296 := by
  unfold hnT getS
  have h4 : ((t.extract 4 8).data.toList.take 8).length ≤ 4 := by rw [List.length_take, dl_size, ByteArray.size_extract]; omega
  exact Nat.lt_of_lt_of_le (un_lt _) (Nat.pow_le_pow_right (n := 256) (by decide) h4)

/-- The zero Filter. -/
def noC : Array Value := #[.int .i64 0, .int .i64 0, .map none]
theorem rh_short (t : ByteArray) (w : World) (h : t.size < 64) :
    Calls Try.prog 29 #[.string t] w fun e w' => e = .returned (.agg noC) ∧ Below w.heap.size w w' := by
  have s1 : (t.size : Int) < 64 := by omega
  have hB := Lib.hid (Blok.new w 28 #[.int .i64 0, .int .i64 0, .map none])
  have hb := Lib.hid ((Below.refl w.heap.size w).alloc (Nat.le_refl _) (.cells #[.int .i64 0, .int .i64 0, .map none] 28))
  go_enter Try.func29, Try.ntmps29
  go_wp2
  refine fl_ret rfl rfl hB.out rfl rfl ?_
  exact ⟨rfl, hb.out⟩

set_option maxHeartbeats 2000000 in
theorem rh_long (t : ByteArray) (p n : Nat) (R : Value → World → Prop) (w : World) (h : 64 ≤ t.size) (hp : hpT t = p) (hn : hnT t = n)
    (HN : hdOk t = false → ∀ W, Below w.heap.size w W → R (.agg noC) W)
    (HY : hdOk t = true → ∀ W mb, Below w.heap.size w W → w.heap.size ≤ mb → MapPg W mb t 0 → R (.agg #[.int .i64 (p : Nat), .int .i64 (n : Nat), .map (some mb)]) W) :
    Calls Try.prog 29 #[.string t] w fun e w' => ∃ f, e = .returned f ∧ R f w' := by
  have hp2 : p < 256 := by have := hpT_lt t; omega
  have hn2 : n < 4294967296 := by have := hnT_lt t; omega
  have G1 := Lib.hid fun W => show Calls Try.prog 44 #[.string (t.extract 3 4)] W _ from get_any (t.extract 3 4) W (by rw [ByteArray.size_extract]; unfold maxLen; omega)
  have G2 := Lib.hid fun W => show Calls Try.prog 44 #[.string (t.extract 4 8)] W _ from get_any (t.extract 4 8) W (by rw [ByteArray.size_extract]; unfold maxLen; omega)
  have eg : getS (t.extract 4 8) = n := hn
  rw [get1 t h, hp] at G1
  rw [eg] at G2
  have M1 := Lib.hid fun W => pmay_any n p W
  have H1 := Lib.hid fun W => head_any n p W hn2 hp2
  have hno := @hdOk_not t
  have hot := @hdOk_other t
  have hyes := @hdOk_iff t
  rw [hp, hn] at hno hot hyes
  have s1 : (64 : Int) ≤ (t.size : Int) := by omega
  have s2 : ¬ (t.size : Int) < 64 := by omega
  have s3 : (4 : Int) ≤ (t.size : Int) := by omega
  have s4 : (8 : Int) ≤ (t.size : Int) := by omega
  have hB := Lib.hid (Blok.new w 28 #[.int .i64 0, .int .i64 0, .map none])
  have HB := Lib.hid ((Below.refl w.heap.size w).alloc (Nat.le_refl _) (.cells #[.int .i64 0, .int .i64 0, .map none] 28))
  obtain ⟨w1, hw1⟩ : ∃ w1, w.alloc (.cells #[.int .i64 0, .int .i64 0, .map none] 28) = w1 := ⟨_, rfl⟩
  rw [hw1] at hB HB
  have hmk : ∀ W : World, (Instr.makeMap 26 none).run Try.prog W = .ok (.map (some W.heap.size)) (W.alloc (.map #[] 0)) := fun W => run_makeMap _ W
  have q1 : IntKind.i64.wrap (p : Int) = (p : Nat) := by rw [IntKind.wrap_i64]; omega
  have q2 : IntKind.i64.wrap (n : Int) = (n : Nat) := by rw [IntKind.wrap_i64]; omega
  go_enter Try.func29, Try.ntmps29
  go_wp2_with fail
  go_region_held3 (fun W => Below w1.heap.size w1 W)
    (first | (with_reducible assumption) | ((repeat' (first | (with_reducible assumption) | (with_reducible exact Below.refl _ _) | (with_reducible refine Below.drew ?_))); done) | fail)
    (first
    | (go_at_call 44; (first | ((with_reducible refine (G1.out _).mono ?_); rintro e w' ⟨rfl, rfl⟩) | ((with_reducible refine (G2.out _).mono ?_); rintro e w' ⟨rfl, rfl⟩)))
    | fail)
  by_cases hk : pgOk n p = true
  · rw [hk] at M1
    by_cases hE : t.extract 0 64 = hdP n p
    · have HY' := Lib.hid (HY (hyes.2 ⟨h, hk, hE⟩))
      have he := list_eq hE.symm
      clear hno hot hyes HN HY hE hk
      go_wp2_with fail
      go_region_held3 (fun W => Below w1.heap.size w1 W)
        (first | (with_reducible assumption) | ((repeat' (first | (with_reducible assumption) | (with_reducible exact Below.refl _ _) | (with_reducible refine Below.drew ?_))); done) | fail)
        (first
        | (go_at_call 21; ((with_reducible refine (M1.out _).mono ?_); rintro e w' ⟨rfl, rfl⟩))
        | (go_at_call 23; ((with_reducible refine (H1.out _).mono ?_); rintro e w' ⟨rfl, hb⟩; have hB2 := bj (by with_reducible assumption) hb))
        | fail)
      have HBB := Lib.hid (show Below w1.heap.size w1 w' by assumption)
      have hbx := HB.out.trans (HBB.out.mono HB.out.size)
      have hlt0 : w.heap.size < w'.heap.size := Nat.lt_of_lt_of_le hB.out.lt HBB.out.size
      have hBw : Blok w' w.heap.size _ _ := (HBB.out.block _ hB.out.lt).trans hB.out
      have hBm := hBw.alloc (.map #[] 0)
      have hbm := hbx.alloc hbx.size (.map #[] 0)
      have hmp := MapPg.new w' t
      obtain ⟨mb, hmb⟩ : ∃ mb, w'.heap.size = mb := ⟨_, rfl⟩
      rw [hmb] at hmp
      have hne : mb ≠ w.heap.size := by omega
      obtain ⟨wm, hwm⟩ : ∃ wm, w'.alloc (.map #[] 0) = wm := ⟨_, rfl⟩
      rw [hwm] at hBm hbm hmp
      have k0 := hBm.cell 0
      have k1 := hBm.cell 1
      have k2 := hBm.cell 2
      have f0 := hBm.frozen 0
      have f1 := hBm.frozen 1
      have f2 := hBm.frozen 2
      have HF := Lib.hid (And.intro hBm (And.intro hbm (And.intro hmp (And.intro hne hbx.size))))
      clear hBw hBm hbm hmp hne hbx hlt0
      go_wp2
      refine fl_ret (p := 2) (g := w.heap.size) (t := 28) (C := #[.int .i64 (p : Nat), .int .i64 (n : Nat), .map (some mb)]) rfl rfl ?_ rfl rfl ?_
      · exact ((HF.out.1.put 0 _).put 1 _).put 2 _
      · exact ⟨_, rfl, HY'.out _ mb (((HF.out.2.1.setCell (Nat.le_refl _) _).setCell (Nat.le_refl _) _).setCell (Nat.le_refl _) _) (by have := HF.out.2.2.2.2; omega) (HF.out.2.2.1.of_block ((heap_setCell_other _ _ _ _ HF.out.2.2.2.1).trans ((heap_setCell_other _ _ _ _ HF.out.2.2.2.1).trans (heap_setCell_other _ _ _ _ HF.out.2.2.2.1))))⟩
    · have HN' := Lib.hid (HN (hot hE))
      have he := list_ne (fun h : hdP n p = t.extract 0 64 => hE h.symm)
      clear hno hot hyes HN HY hE hk
      go_wp2_with fail
      go_region_held3 (fun W => Below w1.heap.size w1 W)
        (first | (with_reducible assumption) | ((repeat' (first | (with_reducible assumption) | (with_reducible exact Below.refl _ _) | (with_reducible refine Below.drew ?_))); done) | fail)
        (first
        | (go_at_call 21; ((with_reducible refine (M1.out _).mono ?_); rintro e w' ⟨rfl, rfl⟩))
        | (go_at_call 23; ((with_reducible refine (H1.out _).mono ?_); rintro e w' ⟨rfl, hb⟩; have hB2 := bj (by with_reducible assumption) hb))
        | fail)
      have HBB := Lib.hid (show Below w1.heap.size w1 w' by assumption)
      have hbx := HB.out.trans (HBB.out.mono HB.out.size)
      have hBm : Blok w' w.heap.size _ _ := (HBB.out.block _ hB.out.lt).trans hB.out
      have k0 := hBm.cell 0
      have k1 := hBm.cell 1
      have k2 := hBm.cell 2
      have f0 := hBm.frozen 0
      have f1 := hBm.frozen 1
      have f2 := hBm.frozen 2
      have HF := Lib.hid (And.intro hBm hbx)
      clear hBm hbx
      go_wp2
      refine fl_ret (p := 2) (g := w.heap.size) (t := 28) (C := #[.int .i64 0, .int .i64 0, .map none]) rfl rfl ?_ rfl rfl ?_
      · exact ((HF.out.1.put 0 _).put 1 _).put 2 _
      · exact ⟨_, rfl, HN'.out _ (((HF.out.2.setCell (Nat.le_refl _) _).setCell (Nat.le_refl _) _).setCell (Nat.le_refl _) _)⟩
  · have hk' := Bool.eq_false_iff.2 hk
    rw [hk'] at M1
    have HN' := Lib.hid (HN (hno hk'))
    clear hno hot hyes HN HY hk hk'
    go_wp2_with fail
    obtain ⟨wq, hwq⟩ : ∃ wq, w1.drew = wq := ⟨_, rfl⟩
    rw [hwq]
    go_quiet ((go_at_call 21; exact Calls.quiet_of_same ((M1.out _).mono fun _ _ h => ⟨h.1, h.2.symm⟩)))
    have hbx := HB.out.drew
    have hBm := hB.out.drew
    rw [hwq] at hbx hBm
    have hbx := below_drewN hbx nq
    have hBm := hBm.drewN nq
    obtain ⟨wz, hwz⟩ : ∃ wz, wq.drewN nq = wz := ⟨_, rfl⟩
    rw [hwz] at hbx hBm ⊢
    have k0 := hBm.cell 0
    have k1 := hBm.cell 1
    have k2 := hBm.cell 2
    have f0 := hBm.frozen 0
    have f1 := hBm.frozen 1
    have f2 := hBm.frozen 2
    have HF := Lib.hid (And.intro hBm hbx)
    clear hBm hbx hwz
    go_wp2
    refine fl_ret (p := 2) (g := w.heap.size) (t := 28) (C := #[.int .i64 0, .int .i64 0, .map none]) rfl rfl ?_ rfl rfl ?_
    · exact ((HF.out.1.put 0 _).put 1 _).put 2 _
    · exact ⟨_, rfl, HN'.out _ (((HF.out.2.setCell (Nat.le_refl _) _).setCell (Nat.le_refl _) _).setCell (Nat.le_refl _) _)⟩

/-- What the head of a file says: a filter that has no page yet. -/
theorem rh_any (t : ByteArray) (w : World) :
    Calls Try.prog 29 #[.string t] w fun e w' => Below w.heap.size w w' ∧ ((hdOk t = false ∧ e = .returned (.agg noC)) ∨ (hdOk t = true ∧ ∃ mb, w.heap.size ≤ mb ∧ e = .returned (.agg #[.int .i64 (hpT t : Nat), .int .i64 (hnT t : Nat), .map (some mb)]) ∧ MapPg w' mb t 0)) := by
  by_cases h : 64 ≤ t.size
  · refine (rh_long t _ _ (fun f w' => Below w.heap.size w w' ∧ ((hdOk t = false ∧ f = .agg noC) ∨ (hdOk t = true ∧ ∃ mb, w.heap.size ≤ mb ∧ f = .agg #[.int .i64 (hpT t : Nat), .int .i64 (hnT t : Nat), .map (some mb)] ∧ MapPg w' mb t 0))) w h rfl rfl (fun h W hb => ⟨hb, Or.inl ⟨h, rfl⟩⟩) (fun h W mb hb hm hM => ⟨hb, Or.inr ⟨h, mb, hm, rfl, hM⟩⟩)).mono ?_
    rintro e w' ⟨f, rfl, hb, ⟨h, rfl⟩ | ⟨h, mb, hm, rfl, hM⟩⟩
    · exact ⟨hb, Or.inl ⟨h, rfl⟩⟩
    · exact ⟨hb, Or.inr ⟨h, mb, hm, rfl, hM⟩⟩
  · refine (rh_short t w (by omega)).mono ?_
    rintro e w' ⟨rfl, hb⟩
    exact ⟨hb, Or.inl ⟨hdOk_short (by omega), rfl⟩⟩
end Go.Proofs.Ytfnppmiapjhjlaa

/- PgLoad, PgLoads, BlRow, PgEx, PgExTrue -/
import Derived.Test.YtfnppmiapjhjlaaPk04
import Derived.Test.YtfnppmiapjhjlaaPk05
import Derived.Deep.RegionHeld3
import Derived.BigQuiet
import Derived.RangeFuncLeaves
import Derived.RangeFuncKeeps
import Derived.RangeFuncFrom
import Derived.Test.YtfnppmiapjhjlaaPk02
/- PgLoad -/
namespace Go.Proofs.Ytfnppmiapjhjlaa
open Go.RowKit
set_option linter.unusedVariables false

theorem get1 (t : ByteArray) (h : 64 ≤ t.size) : getS (t.extract 3 4) = hpT t := by
  have e : (t.extract 3 4).data.toList = [t.data.toList.getD 3 0] := by
    rw [ext_list, List.drop_eq_getElem_cons (by rw [dl_size]; omega), List.getD_eq_getElem?_getD, List.getElem?_eq_getElem (by rw [dl_size]; omega)]
    rfl
  unfold getS hpT
  rw [e]
  simp [un]
theorem hpT_lt (t : ByteArray) : hpT t < 256 := UInt8.toNat_lt _
theorem hnT_lt (t : ByteArray) : hnT t < 4294967296 := by
  unfold hnT getS
  have h4 : ((t.extract 4 8).data.toList.take 8).length ≤ 4 := by rw [List.length_take, dl_size, ByteArray.size_extract]; omega
  exact Nat.lt_of_lt_of_le (un_lt _) (Nat.pow_le_pow_right (n := 256) (by decide) h4)

/-- The zero Filter. -/
def noC : Array Value := #[.int .i64 0, .int .i64 0, .map none]
theorem rh_short (t : ByteArray) (w : World) (h : t.size < 64) :
    Calls Try.prog 29 #[.string t] w fun e w' => e = .returned (.agg noC) ∧ Below w.heap.size w w' := by
  have s1 : (t.size : Int) < 64 := by omega
  have hB := Lib.hid (Blok.new w 28 #[.int .i64 0, .int .i64 0, .map none])
  have hb := Lib.hid ((Below.refl w.heap.size w).alloc (Nat.le_refl _) (.cells #[.int .i64 0, .int .i64 0, .map none] 28))
  go_enter Try.func29, Try.ntmps29
  go_wp2
  refine fl_ret rfl rfl hB.out rfl rfl ?_
  exact ⟨rfl, hb.out⟩

set_option maxHeartbeats 2000000 in
theorem rh_long (t : ByteArray) (p n : Nat) (R : Value → World → Prop) (w : World) (h : 64 ≤ t.size) (hp : hpT t = p) (hn : hnT t = n)
    (HN : hdOk t = false → ∀ W, Below w.heap.size w W → R (.agg noC) W)
    (HY : hdOk t = true → ∀ W mb, Below w.heap.size w W → w.heap.size ≤ mb → MapPg W mb t 0 → R (.agg #[.int .i64 (p : Nat), .int .i64 (n : Nat), .map (some mb)]) W) :
    Calls Try.prog 29 #[.string t] w fun e w' => ∃ f, e = .returned f ∧ R f w' := by
  have hp2 : p < 256 := by have := hpT_lt t; omega
  have hn2 : n < 4294967296 := by have := hnT_lt t; omega
  have G1 := Lib.hid fun W => show Calls Try.prog 44 #[.string (t.extract 3 4)] W _ from get_any (t.extract 3 4) W (by rw [ByteArray.size_extract]; unfold maxLen; omega)
  have G2 := Lib.hid fun W => show Calls Try.prog 44 #[.string (t.extract 4 8)] W _ from get_any (t.extract 4 8) W (by rw [ByteArray.size_extract]; unfold maxLen; omega)
  have eg : getS (t.extract 4 8) = n := hn
  rw [get1 t h, hp] at G1
  rw [eg] at G2
  have M1 := Lib.hid fun W => pmay_any n p W
  have H1 := Lib.hid fun W => head_any n p W hn2 hp2
  have hno := @hdOk_not t
  have hot := @hdOk_other t
  have hyes := @hdOk_iff t
  rw [hp, hn] at hno hot hyes
  have s1 : (64 : Int) ≤ (t.size : Int) := by omega
  have s2 : ¬ (t.size : Int) < 64 := by omega
  have s3 : (4 : Int) ≤ (t.size : Int) := by omega
  have s4 : (8 : Int) ≤ (t.size : Int) := by omega
  have hB := Lib.hid (Blok.new w 28 #[.int .i64 0, .int .i64 0, .map none])
  have HB := Lib.hid ((Below.refl w.heap.size w).alloc (Nat.le_refl _) (.cells #[.int .i64 0, .int .i64 0, .map none] 28))
  obtain ⟨w1, hw1⟩ : ∃ w1, w.alloc (.cells #[.int .i64 0, .int .i64 0, .map none] 28) = w1 := ⟨_, rfl⟩
  rw [hw1] at hB HB
  have hmk : ∀ W : World, (Instr.makeMap 26 none).run Try.prog W = .ok (.map (some W.heap.size)) (W.alloc (.map #[] 0)) := fun W => run_makeMap _ W
  have q1 : IntKind.i64.wrap (p : Int) = (p : Nat) := by rw [IntKind.wrap_i64]; omega
  have q2 : IntKind.i64.wrap (n : Int) = (n : Nat) := by rw [IntKind.wrap_i64]; omega
  go_enter Try.func29, Try.ntmps29
  go_wp2_with fail
  go_region_held3 (fun W => Below w1.heap.size w1 W)
    (first | (with_reducible assumption) | ((repeat' (first | (with_reducible assumption) | (with_reducible exact Below.refl _ _) | (with_reducible refine Below.drew ?_))); done) | fail)
    (first
    | (go_at_call 44; (first | ((with_reducible refine (G1.out _).mono ?_); rintro e w' ⟨rfl, rfl⟩) | ((with_reducible refine (G2.out _).mono ?_); rintro e w' ⟨rfl, rfl⟩)))
    | fail)
  by_cases hk : pgOk n p = true
  · rw [hk] at M1
    by_cases hE : t.extract 0 64 = hdP n p
    · have HY' := Lib.hid (HY (hyes.2 ⟨h, hk, hE⟩))
      have he := list_eq hE.symm
      clear hno hot hyes HN HY hE hk
      go_wp2_with fail
      go_region_held3 (fun W => Below w1.heap.size w1 W)
        (first | (with_reducible assumption) | ((repeat' (first | (with_reducible assumption) | (with_reducible exact Below.refl _ _) | (with_reducible refine Below.drew ?_))); done) | fail)
        (first
        | (go_at_call 21; ((with_reducible refine (M1.out _).mono ?_); rintro e w' ⟨rfl, rfl⟩))
        | (go_at_call 23; ((with_reducible refine (H1.out _).mono ?_); rintro e w' ⟨rfl, hb⟩; have hB2 := bj (by with_reducible assumption) hb))
        | fail)
      have HBB := Lib.hid (show Below w1.heap.size w1 w' by assumption)
      have hbx := HB.out.trans (HBB.out.mono HB.out.size)
      have hlt0 : w.heap.size < w'.heap.size := Nat.lt_of_lt_of_le hB.out.lt HBB.out.size
      have hBw : Blok w' w.heap.size _ _ := (HBB.out.block _ hB.out.lt).trans hB.out
      have hBm := hBw.alloc (.map #[] 0)
      have hbm := hbx.alloc hbx.size (.map #[] 0)
      have hmp := MapPg.new w' t
      obtain ⟨mb, hmb⟩ : ∃ mb, w'.heap.size = mb := ⟨_, rfl⟩
      rw [hmb] at hmp
      have hne : mb ≠ w.heap.size := by omega
      obtain ⟨wm, hwm⟩ : ∃ wm, w'.alloc (.map #[] 0) = wm := ⟨_, rfl⟩
      rw [hwm] at hBm hbm hmp
      have k0 := hBm.cell 0
      have k1 := hBm.cell 1
      have k2 := hBm.cell 2
      have f0 := hBm.frozen 0
      have f1 := hBm.frozen 1
      have f2 := hBm.frozen 2
      have HF := Lib.hid (And.intro hBm (And.intro hbm (And.intro hmp (And.intro hne hbx.size))))
      clear hBw hBm hbm hmp hne hbx hlt0
      go_wp2
      refine fl_ret (p := 2) (g := w.heap.size) (t := 28) (C := #[.int .i64 (p : Nat), .int .i64 (n : Nat), .map (some mb)]) rfl rfl ?_ rfl rfl ?_
      · exact ((HF.out.1.put 0 _).put 1 _).put 2 _
      · exact ⟨_, rfl, HY'.out _ mb (((HF.out.2.1.setCell (Nat.le_refl _) _).setCell (Nat.le_refl _) _).setCell (Nat.le_refl _) _) (by have := HF.out.2.2.2.2; omega) (HF.out.2.2.1.of_block ((heap_setCell_other _ _ _ _ HF.out.2.2.2.1).trans ((heap_setCell_other _ _ _ _ HF.out.2.2.2.1).trans (heap_setCell_other _ _ _ _ HF.out.2.2.2.1))))⟩
    · have HN' := Lib.hid (HN (hot hE))
      have he := list_ne (fun h : hdP n p = t.extract 0 64 => hE h.symm)
      clear hno hot hyes HN HY hE hk
      go_wp2_with fail
      go_region_held3 (fun W => Below w1.heap.size w1 W)
        (first | (with_reducible assumption) | ((repeat' (first | (with_reducible assumption) | (with_reducible exact Below.refl _ _) | (with_reducible refine Below.drew ?_))); done) | fail)
        (first
        | (go_at_call 21; ((with_reducible refine (M1.out _).mono ?_); rintro e w' ⟨rfl, rfl⟩))
        | (go_at_call 23; ((with_reducible refine (H1.out _).mono ?_); rintro e w' ⟨rfl, hb⟩; have hB2 := bj (by with_reducible assumption) hb))
        | fail)
      have HBB := Lib.hid (show Below w1.heap.size w1 w' by assumption)
      have hbx := HB.out.trans (HBB.out.mono HB.out.size)
      have hBm : Blok w' w.heap.size _ _ := (HBB.out.block _ hB.out.lt).trans hB.out
      have k0 := hBm.cell 0
      have k1 := hBm.cell 1
      have k2 := hBm.cell 2
      have f0 := hBm.frozen 0
      have f1 := hBm.frozen 1
      have f2 := hBm.frozen 2
      have HF := Lib.hid (And.intro hBm hbx)
      clear hBm hbx
      go_wp2
      refine fl_ret (p := 2) (g := w.heap.size) (t := 28) (C := #[.int .i64 0, .int .i64 0, .map none]) rfl rfl ?_ rfl rfl ?_
      · exact ((HF.out.1.put 0 _).put 1 _).put 2 _
      · exact ⟨_, rfl, HN'.out _ (((HF.out.2.setCell (Nat.le_refl _) _).setCell (Nat.le_refl _) _).setCell (Nat.le_refl _) _)⟩
  · have hk' := Bool.eq_false_iff.2 hk
    rw [hk'] at M1
    have HN' := Lib.hid (HN (hno hk'))
    clear hno hot hyes HN HY hk hk'
    go_wp2_with fail
    obtain ⟨wq, hwq⟩ : ∃ wq, w1.drew = wq := ⟨_, rfl⟩
    rw [hwq]
    go_quiet ((go_at_call 21; exact Calls.quiet_of_same ((M1.out _).mono fun _ _ h => ⟨h.1, h.2.symm⟩)))
    have hbx := HB.out.drew
    have hBm := hB.out.drew
    rw [hwq] at hbx hBm
    have hbx := below_drewN hbx nq
    have hBm := hBm.drewN nq
    obtain ⟨wz, hwz⟩ : ∃ wz, wq.drewN nq = wz := ⟨_, rfl⟩
    rw [hwz] at hbx hBm ⊢
    have k0 := hBm.cell 0
    have k1 := hBm.cell 1
    have k2 := hBm.cell 2
    have f0 := hBm.frozen 0
    have f1 := hBm.frozen 1
    have f2 := hBm.frozen 2
    have HF := Lib.hid (And.intro hBm hbx)
    clear hBm hbx hwz
    go_wp2
    refine fl_ret (p := 2) (g := w.heap.size) (t := 28) (C := #[.int .i64 0, .int .i64 0, .map none]) rfl rfl ?_ rfl rfl ?_
    · exact ((HF.out.1.put 0 _).put 1 _).put 2 _
    · exact ⟨_, rfl, HN'.out _ (((HF.out.2.setCell (Nat.le_refl _) _).setCell (Nat.le_refl _) _).setCell (Nat.le_refl _) _)⟩

/-- What the head of a file says: a filter that has no page yet. -/
theorem rh_any (t : ByteArray) (w : World) :
    Calls Try.prog 29 #[.string t] w fun e w' => Below w.heap.size w w' ∧ ((hdOk t = false ∧ e = .returned (.agg noC)) ∨ (hdOk t = true ∧ ∃ mb, w.heap.size ≤ mb ∧ e = .returned (.agg #[.int .i64 (hpT t : Nat), .int .i64 (hnT t : Nat), .map (some mb)]) ∧ MapPg w' mb t 0)) := by
  by_cases h : 64 ≤ t.size
  · refine (rh_long t _ _ (fun f w' => Below w.heap.size w w' ∧ ((hdOk t = false ∧ f = .agg noC) ∨ (hdOk t = true ∧ ∃ mb, w.heap.size ≤ mb ∧ f = .agg #[.int .i64 (hpT t : Nat), .int .i64 (hnT t : Nat), .map (some mb)] ∧ MapPg w' mb t 0))) w h rfl rfl (fun h W hb => ⟨hb, Or.inl ⟨h, rfl⟩⟩) (fun h W mb hb hm hM => ⟨hb, Or.inr ⟨h, mb, hm, rfl, hM⟩⟩)).mono ?_
    rintro e w' ⟨f, rfl, hb, ⟨h, rfl⟩ | ⟨h, mb, hm, rfl, hM⟩⟩
    · exact ⟨hb, Or.inl ⟨h, rfl⟩⟩
    · exact ⟨hb, Or.inr ⟨h, mb, hm, rfl, hM⟩⟩
  · refine (rh_short t w (by omega)).mono ?_
    rintro e w' ⟨rfl, hb⟩
    exact ⟨hb, Or.inl ⟨hdOk_short (by omega), rfl⟩⟩
end Go.Proofs.Ytfnppmiapjhjlaa

/- PgLoads -/
namespace Go.Proofs.Ytfnppmiapjhjlaa
open Go.RowKit
set_option linter.unusedVariables false

theorem fl_one (p n : Int) (m : Option Nat) : (#[.int .i64 p, .int .i64 n, .map m] : Array Value).all (·.oneCell') = true := by rw [← Array.all_toList]; rfl

set_option maxHeartbeats 1000000 in
theorem load_no (t : ByteArray) (w : World) (h : hdOk t = false) :
    Calls Try.prog 12 #[.string t] w fun e w' => e = .returned (.agg noC) ∧ Below w.heap.size w w' := by
  have HR := Lib.hid fun W => rh_any t W
  have hB := Blok.new w 28 #[.int .i64 0, .int .i64 0, .map none]
  have hb := (Below.refl w.heap.size w).alloc (Nat.le_refl _) (.cells #[.int .i64 0, .int .i64 0, .map none] 28)
  obtain ⟨w1, hw1⟩ : ∃ w1, w.alloc (.cells #[.int .i64 0, .int .i64 0, .map none] 28) = w1 := ⟨_, rfl⟩
  rw [hw1] at hB hb
  have HB := Lib.hid hB
  have HBE := Lib.hid hb
  have HH := Lib.hid h
  clear hB hb h
  go_enter Try.func12, Try.ntmps12
  go_wp2_with fail
  refine (HR.out _).mono ?_
  rintro e w2 ⟨hb2, ⟨-, rfl⟩ | ⟨hh, -⟩⟩
  · have hBr := HB.out.after hb2
    have hBf := Blok.new w2 28 #[.int .i64 0, .int .i64 0, .map none]
    have HBR := Lib.hid (hBr.alloc (.cells #[.int .i64 0, .int .i64 0, .map none] 28))
    have HBL := Lib.hid ((bj HBE.out hb2).alloc (bj HBE.out hb2).size (.cells #[.int .i64 0, .int .i64 0, .map none] 28))
    have hne : w.heap.size ≠ w2.heap.size := Nat.ne_of_lt hBr.lt
    obtain ⟨fb, hfb⟩ : ∃ fb, w2.heap.size = fb := ⟨_, rfl⟩
    obtain ⟨w3, hw3⟩ : ∃ w3, w2.alloc (.cells #[.int .i64 0, .int .i64 0, .map none] 28) = w3 := ⟨_, rfl⟩
    rw [hw3] at hBf HBR HBL
    rw [hfb] at hBf hne
    unfold noC
    have k0 := hBf.cell 0
    have k1 := hBf.cell 1
    have k2 := hBf.cell 2
    have f0 := hBf.frozen 0
    have f1 := hBf.frozen 1
    have f2 := hBf.frozen 2
    have r0 := HBR.out.cell 0
    have r1 := HBR.out.cell 1
    have r2 := HBR.out.cell 2
    have s0 := HBR.out.frozen 0
    have s1 := HBR.out.frozen 1
    have s2 := HBR.out.frozen 2
    have HBF := Lib.hid hBf
    have HB2 := Lib.hid hb2
    clear hBf hBr hb2
    go_wp2
    refine wp_loop_rounds 1 ?_
    rw [rounds_succ]
    go_wp2
    refine fl_ret (p := 2) (g := w.heap.size) (t := 28) (C := #[.int .i64 0, .int .i64 0, .map none]) rfl rfl ?_ rfl rfl ?_
    · exact ((((((HBR.out.far hne _).far hne _).far hne _).put 0 _).put 1 _).put 2 _)
    · have h1 : w.heap.size ≤ fb := by have := HBR.out.lt; have := (bj HBE.out HB2.out).size; omega
      exact ⟨rfl, ((((((HBL.out.setCell h1 _).setCell h1 _).setCell h1 _).setCell (Nat.le_refl _) _).setCell (Nat.le_refl _) _).setCell (Nat.le_refl _) _)⟩
  · rw [HH.out] at hh; cases hh

/-- What stands at a round's head. -/
def LdAt (w wr : World) (fb mb : Nat) (C : Array Value) (t : ByteArray) (k : Nat) : Prop :=
  Blok wr fb 28 C ∧ Blok wr w.heap.size 28 #[.int .i64 0, .int .i64 0, .map none] ∧ MapPg wr mb t k ∧ Below w.heap.size w wr
theorem LdAt.other {w wr wx : World} {fb mb k : Nat} {C : Array Value} {t : ByteArray} (h : LdAt w wr fb mb C t k) (hb : Below wr.heap.size wr wx) : LdAt w wx fb mb C t k :=
  ⟨h.1.after hb, h.2.1.after hb, h.2.2.1.below hb, h.2.2.2.trans (hb.mono h.2.2.2.size)⟩

set_option maxHeartbeats 2000000 in
theorem load_yes (t : ByteArray) (p n m : Nat) (w : World) (hs : t.size ≤ 1000000) (h : hdOk t = true) (hp : hpT t = p) (hn : hnT t = n) (hm : n = 60 * m) (hm2 : m ≤ 2000) (hp2 : p ≤ 16) :
    Calls Try.prog 12 #[.string t] w fun e w' => ∃ mb, e = .returned (.agg #[.int .i64 (p : Nat), .int .i64 (n : Nat), .map (some mb)]) ∧ MapPg w' mb t m ∧ Below w.heap.size w w' := by
  have HR := Lib.hid fun W => rh_any t W
  have HP := Lib.hid fun (j : Nat) (W : World) (hj : j ≤ 100000) => page_any t j W hj hs
  have hB := Blok.new w 28 #[.int .i64 0, .int .i64 0, .map none]
  have hb := (Below.refl w.heap.size w).alloc (Nat.le_refl _) (.cells #[.int .i64 0, .int .i64 0, .map none] 28)
  obtain ⟨w1, hw1⟩ : ∃ w1, w.alloc (.cells #[.int .i64 0, .int .i64 0, .map none] 28) = w1 := ⟨_, rfl⟩
  rw [hw1] at hB hb
  have HB := Lib.hid hB
  have HBE := Lib.hid hb
  have HH := Lib.hid (And.intro h (And.intro hp (And.intro hn hm)))
  obtain ⟨Z, hZ⟩ : ∃ Z, pgZ = Z := ⟨_, rfl⟩
  have z1 : Z.size = 60 := by rw [← hZ]; exact pgZ_size
  clear hB hb h hp hn
  go_enter Try.func12, Try.ntmps12
  go_wp2_with fail
  refine (HR.out _).mono ?_
  rintro e w2 ⟨hb2, ⟨hh, -⟩ | ⟨-, mb, hmb, rfl, hM⟩⟩
  · rw [HH.out.1] at hh; cases hh
  · rw [HH.out.2.1, HH.out.2.2.1]
    have hmlt := hM.lt
    have hw12 : w.heap.size < w1.heap.size := HB.out.lt
    have hBr := HB.out.after hb2
    have hBf := Blok.new w2 28 #[.int .i64 0, .int .i64 0, .map none]
    have hBr3 := hBr.alloc (.cells #[.int .i64 0, .int .i64 0, .map none] 28)
    have hM3 := hM.of_block (Below.heap_alloc w2 (.cells #[.int .i64 0, .int .i64 0, .map none] 28) mb hmlt)
    have hbl := (bj HBE.out hb2).alloc (bj HBE.out hb2).size (.cells #[.int .i64 0, .int .i64 0, .map none] 28)
    have hne : w.heap.size ≠ w2.heap.size := Nat.ne_of_lt hBr.lt
    have hne2 : mb ≠ w2.heap.size := Nat.ne_of_lt hmlt
    have hne3 : w.heap.size ≠ mb := by omega
    have hle : w.heap.size ≤ w2.heap.size := Nat.le_of_lt hBr.lt
    have hle2 : w.heap.size ≤ mb := by omega
    obtain ⟨fb, hfb⟩ : ∃ fb, w2.heap.size = fb := ⟨_, rfl⟩
    obtain ⟨w3, hw3⟩ : ∃ w3, w2.alloc (.cells #[.int .i64 0, .int .i64 0, .map none] 28) = w3 := ⟨_, rfl⟩
    rw [hw3] at hBf hBr3 hM3 hbl
    rw [hfb] at hBf hne hne2 hle
    have k0 := hBf.cell 0
    have k1 := hBf.cell 1
    have k2 := hBf.cell 2
    have f0 := hBf.frozen 0
    have f1 := hBf.frozen 1
    have f2 := hBf.frozen 2
    obtain ⟨C, hC⟩ : ∃ C : Array Value, #[.int .i64 (p : Nat), .int .i64 (n : Nat), .map (some mb)] = C := ⟨_, rfl⟩
    have hL : LdAt w (((w3.setCell ⟨fb, 0, none⟩ (.int .i64 (p : Nat))).setCell ⟨fb, 1, none⟩ (.int .i64 (n : Nat))).setCell ⟨fb, 2, none⟩ (.map (some mb))) fb mb C t 0 := by
      refine ⟨?_, ((hBr3.far hne _).far hne _).far hne _, hM3.of_block ((heap_setCell_other _ _ _ _ hne2).trans ((heap_setCell_other _ _ _ _ hne2).trans (heap_setCell_other _ _ _ _ hne2))), ((hbl.setCell hle _).setCell hle _).setCell hle _⟩
      rw [← hC]
      exact ((hBf.put 0 _).put 1 _).put 2 _
    have HL := Lib.hid hL
    have HC := Lib.hid hC
    have hq : IntKind.i64.wrap ((n : Int) / 60) = (m : Int) := by rw [IntKind.wrap_i64]; omega
    have hq2 : (n : Int) / 60 = (m : Int) := by omega
    have HX := Lib.hid (And.intro hne (And.intro hne2 (And.intro hne3 (And.intro hle hle2))))
    clear hL hbl hM3 hBr3 hBf hBr hM hb2 hmlt hm hC
    go_wp2
    have hL := HL.out
    obtain ⟨w4, hw4⟩ : ∃ w4, (((w3.setCell ⟨fb, 0, none⟩ (.int .i64 (p : Nat))).setCell ⟨fb, 1, none⟩ (.int .i64 (n : Nat))).setCell ⟨fb, 2, none⟩ (.map (some mb))) = w4 := ⟨_, rfl⟩
    rw [hw4] at hL ⊢
    clear HL hw4 hw3 hw1 hfb k0 k1 k2 f0 f1 f2 hne hne2 hne3 hle hle2
    go_loopw [12] (fun v wr => ∃ k : Nat, k ≤ m ∧ v = .int .i64 k ∧ LdAt w wr fb mb C t k) (fun v _ => m - (intOf v).toNat)
    case atStart => exact ⟨0, Nat.zero_le _, rfl, hL⟩
    case round =>
      clear hL
      obtain ⟨k, hk, rfl, hR⟩ := hrel
      by_cases hlt : k < m
      · have s1 : (k : Int) < (m : Int) := by omega
        have HK := Lib.hid (HP.out (k + 1) wr (by omega))
        obtain ⟨q, hq3⟩ : ∃ q, pgW t (k + 1) = q := ⟨_, rfl⟩
        obtain ⟨D, hD⟩ : ∃ D, pgC (pgL t (k + 1)) = D := ⟨_, rfl⟩
        have zD : D.size = 60 := by rw [← hD, pgC_size, pgL_length]
        have oD : D.all (·.oneCell') = true := by rw [← hD]; exact pgC_one _
        unfold pgV at HK
        rw [hq3, hD] at HK
        have e1 : ((k + 1 : Nat) : Int) = (k : Int) + 1 := by omega
        rw [e1] at HK
        have HQ := Lib.hid (And.intro hq3 hD)
        have HRR := Lib.hid hR
        clear hq3 hD hR e1
        go_wp2_with fail
        refine HK.out.mono ?_
        rintro e w5 ⟨rfl, b5⟩
        have hL5 := HRR.out.other b5
        have hG := Blok.new w5 63 Z
        have hL6 : LdAt w ((w5.alloc (.cells Z 63)).setRow w5.heap.size D) fb mb C t k := hL5.other (below_row ((Below.refl _ _).alloc (Nat.le_refl _) _) (Nat.le_refl _) D)
        have hG6 := hG.row D
        have hgm : mb ≠ w5.heap.size := Nat.ne_of_lt hL5.2.2.1.lt
        obtain ⟨g, hg⟩ : ∃ g, w5.heap.size = g := ⟨_, rfl⟩
        rw [hg] at hG hG6 hL6
        have hgg := Lib.hid hg
        cases q with
        | false =>
          have HG := Lib.hid hG
          have HL6 := Lib.hid hL6
          clear hL5 hL6 hG hG6 hgm b5
          go_wp2_with (first
            | (refine pg_alloc hZ rfl _ rfl rfl ?_; rw [hgg.out])
            | (refine pg_store rfl _ _ rfl rfl rfl HG.out z1 zD oD ?_))
          go_roundw
          case rel => exact ⟨k + 1, hlt, by go_num, HL6.out.1, HL6.out.2.1, HL6.out.2.2.1.skip HQ.out.1, HL6.out.2.2.2⟩
          case measure => simp [intOf]; omega
        | true =>
          obtain ⟨W6, hW6⟩ : ∃ W6, (w5.alloc (.cells Z 63)).setRow g D = W6 := ⟨_, rfl⟩
          rw [hW6] at hL6 hG6
          obtain ⟨w7, hrun, hM7, hg7⟩ := hL6.2.2.1.put (by omega) HQ.out.1
          rw [← pgL_yes HQ.out.1] at hrun
          unfold pgV at hrun
          rw [HQ.out.2] at hrun
          have hL7 : LdAt w w7 fb mb C t (k + 1) := by
            have hb7 := hg7.block
            refine ⟨(hb7 fb hL6.1.lt fun e => ?_).trans hL6.1, (hb7 _ hL6.2.1.lt fun e => ?_).trans hL6.2.1, hM7, hL6.2.2.2.grown hg7 hL6.2.2.2.size fun z hz => ?_⟩
            · injection e with e; exact HX.out.2.1 e.symm
            · injection e with e; exact HX.out.2.2.1 e
            · injection hz with hz; rw [← hz]; exact HX.out.2.2.2.2
          have c2 : W6.cell? ⟨fb, 2, none⟩ = some (.map (some mb)) := by rw [hL6.1.cell 2, ← HC.out]; rfl
          have HG := Lib.hid hG
          have HG6 := Lib.hid hG6
          have HL7 := Lib.hid hL7
          clear hL5 hL6 hG hG6 hgm b5 hM7 hg7 hL7
          go_wp2_with (first
            | (refine pg_alloc hZ rfl _ rfl rfl ?_; rw [hgg.out])
            | (refine pg_store rfl _ _ rfl rfl rfl HG.out z1 zD oD ?_; rw [hW6])
            | (refine pg_load rfl _ rfl rfl HG6.out zD ?_))
          go_roundw
          case rel => exact ⟨k + 1, hlt, by go_num, HL7.out⟩
          case measure => simp [intOf]; omega
      · obtain rfl : k = m := by omega
        have s1 : ¬ (k : Int) < (k : Int) := by omega
        have HRR := Lib.hid hR
        have k0 := (HC.out ▸ hR.1).cell 0
        have k1 := (HC.out ▸ hR.1).cell 1
        have k2 := (HC.out ▸ hR.1).cell 2
        have r0 := hR.2.1.cell 0
        have r1 := hR.2.1.cell 1
        have r2 := hR.2.1.cell 2
        have g0 := hR.2.1.frozen 0
        have g1 := hR.2.1.frozen 1
        have g2 := hR.2.1.frozen 2
        clear hR
        go_wp2
        refine fl_ret (p := 2) (g := w.heap.size) (t := 28) (C := #[.int .i64 (p : Nat), .int .i64 (n : Nat), .map (some mb)]) rfl rfl ?_ rfl rfl ?_
        · exact ((HRR.out.2.1.put 0 _).put 1 _).put 2 _
        · have e3 := HX.out.2.2.1.symm
          exact ⟨mb, rfl, HRR.out.2.2.1.of_block ((heap_setCell_other _ _ _ _ e3).trans ((heap_setCell_other _ _ _ _ e3).trans (heap_setCell_other _ _ _ _ e3))), ((HRR.out.2.2.2.setCell (Nat.le_refl _) _).setCell (Nat.le_refl _) _).setCell (Nat.le_refl _) _⟩

/-- A filter of a file's bytes. -/
theorem load_any (t : ByteArray) (w : World) (hs : t.size ≤ 1000000) :
    Calls Try.prog 12 #[.string t] w fun e w' => ∃ f, e = .returned f ∧ FilterAt w' f t ∧ Below w.heap.size w w' := by
  by_cases h : hdOk t = true
  · obtain ⟨g1, g2, g3, g4, g5⟩ := pgOk_iff.1 (hdOk_iff.1 h).2.1
    refine (load_yes t (hpT t) (hnT t) (hnT t / 60) w hs h rfl rfl (by omega) (by omega) (by omega)).mono ?_
    rintro e w' ⟨mb, rfl, hM, hb⟩
    exact ⟨_, rfl, Or.inr ⟨h, mb, rfl, hM⟩, hb⟩
  · have h := Bool.eq_false_iff.2 h
    refine (load_no t w h).mono ?_
    rintro e w' ⟨rfl, hb⟩
    exact ⟨_, rfl, Or.inl ⟨h, rfl⟩, hb⟩
end Go.Proofs.Ytfnppmiapjhjlaa

/- BlRow -/
namespace Go.Proofs.Ytfnppmiapjhjlaa
open Go.RowKit
set_option linter.unusedVariables false

theorem rowB_made (w : World) (z : Value) (n : Nat) (t : TypeId) : RowB (w.alloc (.cells (madeCells #[z] n) t)) w.heap.size n (fun _ => z) :=
  ⟨madeCells #[z] n, t, (0, 0), World.alloc_heap_new w _, Nat.le_of_eq (size_madeCells _ _).symm, Or.inl rfl, fun i hi => by simp [madeCells, hi, Nat.mod_one]⟩
theorem RowB.alloc {w : World} {b n : Nat} {f : Nat → Value} (h : RowB w b n f) (o : Obj) : RowB (w.alloc o) b n f := h.of_block ((World.grownBy_alloc w o none).block b h.lt (by simp))
theorem RowB.grown {w w' : World} {b n : Nat} {f : Nat → Value} {row : Option Nat} (h : RowB w b n f) (hg : w.grownBy w' row) (hne : some b ≠ row) : RowB w' b n f := h.of_block (hg.block b h.lt hne)
theorem RowB.far {w : World} {b n : Nat} {f : Nat → Value} (h : RowB w b n f) {c : Nat} (hc : c ≠ b) (i : Nat) (v : Value) : RowB (w.setCell ⟨c, i, none⟩ v) b n f :=
  h.of_block (Below.heap_setCell _ _ _ b (fun e => hc e.symm))
/-- A row of cells is no record of a loop. -/
theorem RowB.own {β : Type} (b n : Nat) (f : β → Nat → Value) : Own (fun (s : β) W => RowB W b n (f s)) := fun s X Y row hs hg hrow =>
  hs.grown hg (fun e => by
    obtain ⟨o, ho, hc⟩ := hrow b e.symm
    obtain ⟨c, t, fr, hb, _⟩ := hs
    rw [hb] at ho
    cases ho
    cases hc)

/-- The mark of a loop over an iterator. -/
def coll (D : Nat) : Deferred := { target := .collected D, args := #[] }
/-- The marks' blocks hold no call. -/
def DefsAt (B : Nat) (Ds : List Nat) (W : World) : Prop := Ds.Nodup ∧ ∀ D ∈ Ds, B ≤ D ∧ W.heap[D]? = some (.deferred (some []))
theorem DefsAt.nil (B : Nat) (W : World) : DefsAt B [] W := ⟨List.nodup_nil, fun D h => by cases h⟩
theorem DefsAt.lt {B : Nat} {Ds : List Nat} {W : World} (h : DefsAt B Ds W) {D : Nat} (hD : D ∈ Ds) : D < W.heap.size := (Array.getElem?_eq_some_iff.1 (h.2 D hD).2).1
theorem DefsAt.cons {B : Nat} {Ds : List Nat} {W : World} (h : DefsAt B Ds W) {D : Nat} (hB : B ≤ D) (hD : W.heap[D]? = some (.deferred (some []))) (hn : D ∉ Ds) : DefsAt B (D :: Ds) W :=
  ⟨List.nodup_cons.2 ⟨hn, h.1⟩, fun E hE => by
    rcases List.mem_cons.1 hE with rfl | hE
    · exact ⟨hB, hD⟩
    · exact h.2 E hE⟩
/-- Loops' records that lie beyond the marks' blocks are none of them. -/
theorem defsAt_own {β : Type} {B N : Nat} {Ds : List Nat} (hN : ∀ D ∈ Ds, D < N) : OwnFrom N (fun (_ : β) W => DefsAt B Ds W) := fun s X Y row hs hg hrow =>
  ⟨hs.1, fun D hD => ⟨(hs.2 D hD).1, (hg.block D (hs.lt hD) (fun e => by
    have := (hrow D e.symm).1
    have := hN D hD
    omega)).trans (hs.2 D hD).2⟩⟩
theorem DefsAt.setCell {B : Nat} {Ds : List Nat} {W : World} (h : DefsAt B Ds W) {c : Nat} (hc : c < B) (i : Nat) (v : Value) : DefsAt B Ds (W.setCell ⟨c, i, none⟩ v) :=
  ⟨h.1, fun D hD => ⟨(h.2 D hD).1, (Below.heap_setCell W _ _ D (fun e => by have := (h.2 D hD).1; have e' : D = c := e; omega)).trans (h.2 D hD).2⟩⟩

theorem leaves_all {F : Fence} {n : Nat} {P : Program} {fn : Func} {tmps : Array Value} {R : Ending → World → Prop} {B : Nat} : ∀ (Ds : List Nat) (w : World), DefsAt B Ds w →
    (∀ w', Below B w w' → LeavesInM F n P fn tmps R [] .returning w') → LeavesInM F n P fn tmps R (Ds.map coll) .returning w
  | [], w, _, h => h w (Below.refl _ _)
  | D :: Ds, w, hD, h => by
    have h1 := hD.2 D List.mem_cons_self
    have hlt := hD.lt List.mem_cons_self
    have hb : Below B w (w.putObj D (.deferred none)) := (Below.refl B w).grown (grownBy_putObj' w D _) (by omega) (fun k e => by cases e; exact h1.1)
    refine ⟨by simp, .inl ⟨D, _, rfl, run_takeDeferred h1.2, leaves_all Ds _ ⟨(List.nodup_cons.1 hD.1).2, fun E hE => ⟨(hD.2 E (List.mem_cons_of_mem _ hE)).1, ?_⟩⟩ fun w' hw => h w' (hb.trans hw)⟩⟩
    have hne : E ≠ D := fun e => (List.nodup_cons.1 hD.1).1 (e ▸ hE)
    exact ((grownBy_putObj' w D (.deferred none)).block E (hD.lt (List.mem_cons_of_mem _ hE)) (fun e => by cases e; exact hne rfl)).trans (hD.2 E (List.mem_cons_of_mem _ hE)).2
end Go.Proofs.Ytfnppmiapjhjlaa

/- PgEx -/
namespace Go.Proofs.Ytfnppmiapjhjlaa
open Go.RowKit
set_option linter.unusedVariables false

theorem lawmay_any (t : ByteArray) (g : Nat) (w : World) (hs : t.size ≤ 1000000) (hg : g < 18446744073709551616) :
    Calls Try.prog 20 #[.string t, .int .u64 (g : Nat)] w fun e w' => e = .returned (.bool (mayT t g)) ∧ Below w.heap.size w w' := by
  have H1 := Lib.hid fun W => load_any t W hs
  have H2 := Lib.hid fun f W h => may_any f g t W hg h
  go_enter Try.func20, Try.ntmps20
  go_wp2_with fail
  refine (H1.out _).mono ?_
  rintro e w1 ⟨f, rfl, hf, b1⟩
  go_wp2_with fail
  refine (H2.out f _ hf).mono ?_
  rintro e w2 ⟨rfl, b2⟩
  go_wp2
  go_ret
  exact ⟨rfl, bj b1 b2⟩

/-- The bytes of the example, of which k are set. -/
def exB (k j : Nat) : Value := .int .u8 (if j < k then 255 else 0)
/-- The example's array. -/
def exL : List UInt8 := List.replicate 60 255 ++ List.replicate 60 0
theorem exL_at (i : Nat) (hi : i < 120) : exB 60 i = u8At exL i := by
  unfold exB u8At exL
  by_cases h : i < 60
  · rw [if_pos h, List.getD_eq_getElem?_getD, List.getElem?_append_left (by simp; omega), List.getElem?_replicate, if_pos h]
    rfl
  · rw [if_neg h, List.getD_eq_getElem?_getD, List.getElem?_append_right (by simp; omega), List.getElem?_replicate, if_pos (by simp; omega)]
    rfl
theorem u8At_set (L : List UInt8) (k : Nat) (y : Nat) (hy : y < 256) (i : Nat) (hi : i < L.length) : (if i = k then Value.int .u8 (y : Int) else u8At L i) = u8At (L.set k (UInt8.ofNat y)) i := by
  unfold u8At
  by_cases e : i = k
  · subst e
    rw [if_pos rfl, List.getD_eq_getElem?_getD, List.getElem?_set_self hi]
    show _ = Value.int .u8 ((UInt8.ofNat y).toNat : Int)
    rw [UInt8.toNat_ofNat', Nat.mod_eq_of_lt (by omega)]
  · rw [if_neg e, List.getD_eq_getElem?_getD, List.getD_eq_getElem?_getD, List.getElem?_set_ne (fun h => e h.symm)]

set_option maxHeartbeats 2000000 in
theorem paged_walk (A S T U : ByteArray) (w : World) (x1 y1 x0 y0 : Nat) (hA : (⟨exL.toArray⟩ : ByteArray) = A) (hS : S.size = 192)
    (h1 : (S.data.toList.getD 191 0).toNat = x1) (h0 : (S.data.toList.getD 0 0).toNat = x0) (e1 : bits .xor .u8 (x1 : Int) 1 = (y1 : Int)) (e0 : bits .xor .u8 (x0 : Int) 1 = (y0 : Int)) (l1 : y1 < 256) (l0 : y0 < 256)
    (hT : (⟨(S.data.toList.set 191 (UInt8.ofNat y1)).toArray⟩ : ByteArray) = T) (hU : (⟨(S.data.toList.set 0 (UInt8.ofNat y0)).toArray⟩ : ByteArray) = U)
    (P1 : ∀ W, Calls Try.prog 10 #[.string A, .int .i64 1] W fun e w' => e = .returned (.string S) ∧ Below W.heap.size W w')
    (P2 : ∀ W, Calls Try.prog 10 #[.string ⟨#[]⟩, .int .i64 1] W fun e w' => e = .returned (.string ⟨#[]⟩) ∧ Below W.heap.size W w')
    (P3 : ∀ W, Calls Try.prog 10 #[.string A, .int .i64 17] W fun e w' => e = .returned (.string ⟨#[]⟩) ∧ Below W.heap.size W w')
    (M1 : ∀ W, Calls Try.prog 20 #[.string S, .int .u64 0] W fun e w' => e = .returned (.bool true) ∧ Below W.heap.size W w')
    (M2 : ∀ W, Calls Try.prog 20 #[.string S, .int .u64 480] W fun e w' => e = .returned (.bool false) ∧ Below W.heap.size W w')
    (M3 : ∀ W, Calls Try.prog 20 #[.string T, .int .u64 0] W fun e w' => e = .returned (.bool true) ∧ Below W.heap.size W w')
    (M4 : ∀ W, Calls Try.prog 20 #[.string T, .int .u64 480] W fun e w' => e = .returned (.bool true) ∧ Below W.heap.size W w')
    (M5 : ∀ W, Calls Try.prog 20 #[.string (S.extract 0 191), .int .u64 480] W fun e w' => e = .returned (.bool true) ∧ Below W.heap.size W w')
    (M6 : ∀ W, Calls Try.prog 20 #[.string ⟨#[]⟩, .int .u64 480] W fun e w' => e = .returned (.bool true) ∧ Below W.heap.size W w')
    (M7 : ∀ W, Calls Try.prog 20 #[.string U, .int .u64 480] W fun e w' => e = .returned (.bool true) ∧ Below W.heap.size W w') :
    Calls Try.prog 9 #[] w fun e w' => e = .returned (.bool true) ∧ Below w.heap.size w w' := by
  have HP1 := Lib.hid P1
  have HP2 := Lib.hid P2
  have HP3 := Lib.hid P3
  have HM1 := Lib.hid M1
  have HM2 := Lib.hid M2
  have HM3 := Lib.hid M3
  have HM4 := Lib.hid M4
  have HM5 := Lib.hid M5
  have HM6 := Lib.hid M6
  have HM7 := Lib.hid M7
  clear P1 P2 P3 M1 M2 M3 M4 M5 M6 M7
  have hmk := run_make_row' (P := Try.prog) 36 5 (.int .u8 0) 1 Try.underlying36 (by kernel_rfl) rfl .i64 .i64 120 (by omega) (by omega)
  have hR0 := rowB_made w (.int .u8 0) 120 5
  obtain ⟨Z, hZ⟩ : ∃ Z, madeCells #[Value.int .u8 0] 120 = Z := ⟨_, rfl⟩
  rw [hZ] at hmk hR0
  have hmk : ∀ w : World, (Instr.makeSlice 36 (.int .i64 120) (.int .i64 120)).run Try.prog w = .ok (.slice (some ⟨w.heap.size, 0, none⟩) 120 120) (w.alloc (.cells Z 5)) := hmk
  have hb0 := (Below.refl _ w).alloc (Nat.le_refl _) (.cells Z 5)
  obtain ⟨w1, hw1⟩ : ∃ w1, w.alloc (.cells Z 5) = w1 := ⟨_, rfl⟩
  rw [hw1] at hR0 hb0
  have HW1 := Lib.hid hw1
  clear hZ hw1
  have hs : ((S.size : Nat) : Int) = 192 := by omega
  go_enter Try.func9, Try.ntmps9
  go_wp2
  rw [HW1.out]
  go_loopw [2] (fun v wr => ∃ k : Nat, k ≤ 60 ∧ v = .int .i64 k ∧ RowB wr w.heap.size 120 (exB k) ∧ Below w.heap.size w wr) (fun v _ => 60 - (intOf v).toNat)
  case atStart => exact ⟨0, Nat.zero_le _, rfl, hR0.congr fun i hi => rfl, hb0⟩
  case round =>
    obtain ⟨k, hk, rfl, hR, hb⟩ := hrel
    by_cases hlt : k < 60
    · have s1 : (k : Int) < 60 := by omega
      have s2 : (k : Int) < 120 := by omega
      have f1 := hR.frozen (i := k) (by omega)
      have c1 := hR.cell (i := k) (by omega)
      have hR2 := (hR.set k (.int .u8 255)).congr (g := exB (k + 1)) fun i hi => by
        unfold exB
        by_cases e : i = k
        · rw [if_pos e, if_pos (by omega)]
        · rw [if_neg e]
          by_cases e2 : i < k
          · rw [if_pos e2, if_pos (by omega)]
          · rw [if_neg e2, if_neg (by omega)]
      have hb2 := hb.setCell (p := ⟨w.heap.size, k, none⟩) (Nat.le_refl _) (.int .u8 255)
      have HR := Lib.hid (And.intro hR2 hb2)
      clear hR hb hR2 hb2
      go_wp2
      go_roundw
      case rel => exact ⟨k + 1, hlt, by go_num, HR.out.1, HR.out.2⟩
      case measure => simp [intOf]; omega
    · obtain rfl : k = 60 := by omega
      have hRA := hR.congr exL_at
      have HCA := Lib.hid fun W (hW : Below wr.heap.size wr W) => conv_out (hRA.below hW) (show exL.length = 120 from rfl) 120
      rw [hA] at HCA
      have hcv := HCA.out wr (Below.refl _ _)
      have HB := Lib.hid hb
      clear hR hb
      go_wp2_with fail
      refine (HP1.out _).mono ?_
      rintro e w2 ⟨rfl, b2⟩
      have hcv1 := conv_in w2 S
      have hrow1 := bytesIn_row 5 w2 S
      have hb3 : Below w2.heap.size w2 (bytesIn 5 w2 S) := bytesIn_below 5 S (Below.refl _ _)
      obtain ⟨cap1, hcap1⟩ : ∃ cap, grownCap w2 S.size 0 5 = cap := ⟨_, rfl⟩
      obtain ⟨w3, hw3⟩ : ∃ w3, bytesIn 5 w2 S = w3 := ⟨_, rfl⟩
      rw [hcap1, hw3, hS] at hcv1
      rw [hw3, hS] at hrow1
      rw [hw3] at hb3
      have hcv2 := conv_in w3 S
      have hrow2 := bytesIn_row 5 w3 S
      have hb4 : Below w3.heap.size w3 (bytesIn 5 w3 S) := bytesIn_below 5 S (Below.refl _ _)
      obtain ⟨cap2, hcap2⟩ : ∃ cap, grownCap w3 S.size 0 5 = cap := ⟨_, rfl⟩
      obtain ⟨w4, hw4⟩ : ∃ w4, bytesIn 5 w3 S = w4 := ⟨_, rfl⟩
      rw [hcap2, hw4, hS] at hcv2
      rw [hw4, hS] at hrow2
      rw [hw4] at hb4
      have hlt1 := hrow1.lt
      have hrow1 := hrow1.below hb4
      have hbw2 := bj HB.out b2
      have hbw4 := bj hbw2 (bj hb3 hb4)
      obtain ⟨B1, hB1⟩ : ∃ B, w2.heap.size = B := ⟨_, rfl⟩
      obtain ⟨B2, hB2⟩ : ∃ B, w3.heap.size = B := ⟨_, rfl⟩
      rw [hB1] at hcv1 hrow1 hlt1
      rw [hB2] at hcv2 hrow2 hlt1
      have hle1 : w.heap.size ≤ B1 := by rw [← hB1]; exact hbw2.size
      have hne : B2 ≠ B1 := by omega
      have hle2 : w.heap.size ≤ B2 := by omega
      have c1 := hrow1.cell (i := 191) (by decide)
      have f1 := hrow1.frozen (i := 191) (by decide)
      have c0 := hrow2.cell (i := 0) (by decide)
      have f0 := hrow2.frozen (i := 0) (by decide)
      unfold u8At at c1 c0
      rw [h1] at c1
      rw [h0] at c0
      have hl : S.data.toList.length = 192 := by rw [← hS]; exact Array.length_toList
      have hrT := (hrow1.set 191 (.int .u8 (y1 : Int))).congr fun i hi => u8At_set S.data.toList 191 y1 l1 i (by rw [hl]; exact hi)
      have hrU := (hrow2.of_block (heap_setCell_other w4 ⟨B1, 191, none⟩ B2 (.int .u8 (y1 : Int)) hne)).set 0 (.int .u8 (y0 : Int))
      have hrU := hrU.congr fun i hi => u8At_set S.data.toList 0 y0 l0 i (by rw [hl]; exact hi)
      have hrT := hrT.of_block (heap_setCell_other (w4.setCell ⟨B1, 191, none⟩ (.int .u8 (y1 : Int))) ⟨B2, 0, none⟩ B1 (.int .u8 (y0 : Int)) hne.symm)
      have hbw6 := (hbw4.setCell (p := ⟨B1, 191, none⟩) hle1 (.int .u8 (y1 : Int))).setCell (p := ⟨B2, 0, none⟩) hle2 (.int .u8 (y0 : Int))
      have hrA := (((hRA.below b2).below (bj hb3 hb4)).of_block (heap_setCell_other w4 ⟨B1, 191, none⟩ w.heap.size (.int .u8 (y1 : Int)) (by have := hRA.lt; have := b2.size; show w.heap.size ≠ B1; omega))).of_block (heap_setCell_other (w4.setCell ⟨B1, 191, none⟩ (.int .u8 (y1 : Int))) ⟨B2, 0, none⟩ w.heap.size (.int .u8 (y0 : Int)) (by have := hRA.lt; have := b2.size; show w.heap.size ≠ B2; omega))
      have HHT := Lib.hid hrT
      have HHU := Lib.hid hrU
      have HHA := Lib.hid hrA
      have HB6 := Lib.hid hbw6
      have HL := Lib.hid hl
      clear hrT hrU hrA hbw6 hbw4 hbw2 hrow1 hrow2 hb3 hb4 b2 hRA HCA hcv hl hle1 hle2 hlt1 hcap1 hcap2 hw3 hw4 hB1 hB2 h1 h0
      go_wp2_with fail
      obtain ⟨w6, hw6⟩ : ∃ w6, (w4.setCell ⟨B1, 191, none⟩ (.int .u8 (y1 : Int))).setCell ⟨B2, 0, none⟩ (.int .u8 (y0 : Int)) = w6 := ⟨_, rfl⟩
      have HCT := Lib.hid fun W (hW : Below w6.heap.size w6 W) => conv_out ((show RowB w6 B1 192 _ from hw6 ▸ HHT.out).below hW) (by rw [List.length_set]; exact HL.out) cap1
      have HCU := Lib.hid fun W (hW : Below w6.heap.size w6 W) => conv_out ((show RowB w6 B2 192 _ from hw6 ▸ HHU.out).below hW) (by rw [List.length_set]; exact HL.out) cap2
      have HCA := Lib.hid fun W (hW : Below w6.heap.size w6 W) => conv_out ((show RowB w6 w.heap.size 120 _ from hw6 ▸ HHA.out).below hW) (show exL.length = 120 from rfl) 120
      rw [hT] at HCT
      rw [hU] at HCU
      rw [hA] at HCA
      rw [hw6] at HB6 ⊢
      clear HHT HHU HHA hw6 hT hU hA f1 f0 c1 c0 hcv1 hcv2 e1 e0
      refine (HM1.out _).mono ?_
      rintro e w7 ⟨rfl, b7⟩
      go_wp2_with fail
      refine (HM2.out _).mono ?_
      rintro e w8 ⟨rfl, b8⟩
      have b8 := bj b7 b8
      have t8 := HCT.out w8 b8
      go_wp2_with fail
      refine (HM3.out _).mono ?_
      rintro e w9 ⟨rfl, b9⟩
      have b9 := bj b8 b9
      have t9 := HCT.out w9 b9
      clear t8 b7 b8
      go_wp2_with fail
      refine (HM4.out _).mono ?_
      rintro e w10 ⟨rfl, b10⟩
      have b10 := bj b9 b10
      clear t9 b9
      go_wp2_with fail
      refine (HM5.out _).mono ?_
      rintro e w11 ⟨rfl, b11⟩
      have b11 := bj b10 b11
      clear b10
      go_wp2_with fail
      refine (HM6.out _).mono ?_
      rintro e w12 ⟨rfl, b12⟩
      have b12 := bj b11 b12
      have t12 := HCU.out w12 b12
      clear b11
      go_wp2_with fail
      refine (HM7.out _).mono ?_
      rintro e w13 ⟨rfl, b13⟩
      have b13 := bj b12 b13
      clear b12 t12
      go_wp2_with fail
      refine (HP2.out _).mono ?_
      rintro e w14 ⟨rfl, b14⟩
      have b14 := bj b13 b14
      have t14 := HCA.out w14 b14
      clear b13
      go_wp2_with fail
      refine (HP3.out _).mono ?_
      rintro e w15 ⟨rfl, b15⟩
      have b15 := bj b14 b15
      clear b14 t14
      have HB15 := Lib.hid (bj HB6.out b15)
      clear b15
      go_wp2
      go_ret
      exact ⟨rfl, HB15.out⟩
end Go.Proofs.Ytfnppmiapjhjlaa

/- PgExTrue -/
namespace Go.Proofs.Ytfnppmiapjhjlaa
open Go.RowKit
set_option linter.unusedVariables false
set_option maxRecDepth 100000

def exA : ByteArray := bs exL
def exS : ByteArray := putP exA 1
def exT : ByteArray := bs (exS.data.toList.set 191 5)
def exU : ByteArray := bs (exS.data.toList.set 0 99)
theorem ex1 : (exS.data.toList.getD 191 0).toNat = 4 := by decide +kernel
theorem ex2 : (exS.data.toList.getD 0 0).toNat = 98 := by decide +kernel
theorem ex3 : mayT exS 0 = true := by decide +kernel
theorem ex4 : mayT exS 480 = false := by decide +kernel
theorem ex5 : mayT exT 0 = true := by decide +kernel
theorem ex6 : mayT exT 480 = true := by decide +kernel
theorem ex7 : mayT (exS.extract 0 191) 480 = true := by decide +kernel
theorem ex8 : mayT exU 480 = true := by decide +kernel
theorem ex9 : mayT ⟨#[]⟩ 480 = true := by decide +kernel
theorem ex10 : exS.size = 192 := by decide +kernel
theorem ex11 : putP ⟨#[]⟩ 1 = ⟨#[]⟩ := by decide +kernel
theorem ex12 : putP exA 17 = ⟨#[]⟩ := by decide +kernel

theorem ex_may {t : ByteArray} {q : Bool} (g : Nat) (h : mayT t g = q) (hs : t.size ≤ 1000000) (hg : g < 18446744073709551616) : ∀ W, Calls Try.prog 20 #[.string t, .int .u64 (g : Nat)] W fun e w' => e = .returned (.bool q) ∧ Below W.heap.size W w' := fun W => by
  have := lawmay_any t g W hs hg
  rw [h] at this
  exact this
theorem ex_put {a s : ByteArray} {p : Int} (h : putP a p = s) : ∀ W, Calls Try.prog 10 #[.string a, .int .i64 p] W fun e w' => e = .returned (.string s) ∧ Below W.heap.size W w' := fun W => by
  have := pput_any a p W
  rw [h] at this
  exact this
theorem set_size (L : List UInt8) (k : Nat) (c : UInt8) : (bs (L.set k c)).size = L.length := by rw [bs_size, List.length_set]
theorem exS_len : exS.data.toList.length = 192 := by rw [dl_size]; exact ex10
/-- The chapter's examples. -/
theorem paged_true (w : World) : Calls Try.prog 9 #[] w fun e w' => e = .returned (.bool true) ∧ Below w.heap.size w w' :=
  paged_walk exA exS exT exU w 4 5 98 99 rfl ex10 ex1 ex2 (by decide) (by decide) (by decide) (by decide) rfl rfl
    (ex_put rfl) (ex_put ex11) (ex_put ex12)
    (ex_may 0 ex3 (by rw [ex10]; decide) (by decide)) (ex_may 480 ex4 (by rw [ex10]; decide) (by decide))
    (ex_may 0 ex5 (by unfold exT; rw [set_size, exS_len]; decide) (by decide)) (ex_may 480 ex6 (by unfold exT; rw [set_size, exS_len]; decide) (by decide))
    (ex_may 480 ex7 (by rw [ByteArray.size_extract, ex10]; decide) (by decide)) (ex_may 480 ex9 (by decide) (by decide)) (ex_may 480 ex8 (by unfold exU; rw [set_size, exS_len]; decide) (by decide))
end Go.Proofs.Ytfnppmiapjhjlaa

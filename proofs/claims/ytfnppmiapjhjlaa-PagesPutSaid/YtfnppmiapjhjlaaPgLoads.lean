/- The program's Load: the pages that are whole, one after another. -/
import Derived.Test.YtfnppmiapjhjlaaPgLoad
namespace Go.Proofs.Ytfnppmiapjhjlaa
open Go.RowKit
set_option linter.unusedVariables false

theorem fl_one (p n : Int) (m : Option Nat) : (#[.int .i64 p, .int .i64 n, .map m] : Array Value).all (·.oneCell') = true := by rw [← Array.all_toList]; rfl

set_option maxHeartbeats 1000000 in
theorem load_no (t : ByteArray) (w : World) (h : hdOk t = false) :
    Calls Try.prog 12 #[.string t] w fun e w' => e = .returned (.agg noC) ∧ Below w.heap.size w w' := by
  have HR := Lib.hid fun W => rh_any t W
  have hB := Blok.new w 28 #[.int .i64 0, .int .i64 0, .map none]
  have hb := (Below.refl w.heap.size w).alloc (Nat.le_refl _) (.cells #[.int .i64 0, .int .i64 0, .map none] 28)
  obtain ⟨w1, hw1⟩ : ∃ w1, w.alloc (.cells #[.int .i64 0, .int .i64 0, .map none] 28) = w1 := ⟨_, rfl⟩
  rw [hw1] at hB hb
  have HB := Lib.hid hB
  have HBE := Lib.hid hb
  have HH := Lib.hid h
  clear hB hb h
  go_enter Try.func12, Try.ntmps12
  go_wp2_with fail
  refine (HR.out _).mono ?_
  rintro e w2 ⟨hb2, ⟨-, rfl⟩ | ⟨hh, -⟩⟩
  · have hBr := HB.out.after hb2
    have hBf := Blok.new w2 28 #[.int .i64 0, .int .i64 0, .map none]
    have HBR := Lib.hid (hBr.alloc (.cells #[.int .i64 0, .int .i64 0, .map none] 28))
    have HBL := Lib.hid ((bj HBE.out hb2).alloc (bj HBE.out hb2).size (.cells #[.int .i64 0, .int .i64 0, .map none] 28))
    have hne : w.heap.size ≠ w2.heap.size := Nat.ne_of_lt hBr.lt
    obtain ⟨fb, hfb⟩ : ∃ fb, w2.heap.size = fb := ⟨_, rfl⟩
    obtain ⟨w3, hw3⟩ : ∃ w3, w2.alloc (.cells #[.int .i64 0, .int .i64 0, .map none] 28) = w3 := ⟨_, rfl⟩
    rw [hw3] at hBf HBR HBL
    rw [hfb] at hBf hne
    unfold noC
    have k0 := hBf.cell 0
    have k1 := hBf.cell 1
    have k2 := hBf.cell 2
    have f0 := hBf.frozen 0
    have f1 := hBf.frozen 1
    have f2 := hBf.frozen 2
    have r0 := HBR.out.cell 0
    have r1 := HBR.out.cell 1
    have r2 := HBR.out.cell 2
    have s0 := HBR.out.frozen 0
    have s1 := HBR.out.frozen 1
    have s2 := HBR.out.frozen 2
    have HBF := Lib.hid hBf
    have HB2 := Lib.hid hb2
    clear hBf hBr hb2
    go_wp2
    refine wp_loop_rounds 1 ?_
    rw [rounds_succ]
    go_wp2
    refine fl_ret (p := 2) (g := w.heap.size) (t := 28) (C := #[.int .i64 0, .int .i64 0, .map none]) rfl rfl ?_ rfl rfl ?_
    · exact ((((((HBR.out.far hne _).far hne _).far hne _).put 0 _).put 1 _).put 2 _)
    · have h1 : w.heap.size ≤ fb := by have := HBR.out.lt; have := (bj HBE.out HB2.out).size; omega
      exact ⟨rfl, ((((((HBL.out.setCell h1 _).setCell h1 _).setCell h1 _).setCell (Nat.le_refl _) _).setCell (Nat.le_refl _) _).setCell (Nat.le_refl _) _)⟩
  · rw [HH.out] at hh; cases hh

/-- What stands at a round's head. -/
def LdAt (w wr : World) (fb mb : Nat) (C : Array Value) (t : ByteArray) (k : Nat) : Prop :=
  Blok wr fb 28 C ∧ Blok wr w.heap.size 28 #[.int .i64 0, .int .i64 0, .map none] ∧ MapPg wr mb t k ∧ Below w.heap.size w wr
theorem LdAt.other {w wr wx : World} {fb mb k : Nat} {C : Array Value} {t : ByteArray} (h : LdAt w wr fb mb C t k) (hb : Below wr.heap.size wr wx) : LdAt w wx fb mb C t k :=
  ⟨h.1.after hb, h.2.1.after hb, h.2.2.1.below hb, h.2.2.2.trans (hb.mono h.2.2.2.size)⟩

set_option maxHeartbeats 2000000 in
theorem load_yes (t : ByteArray) (p n m : Nat) (w : World) (hs : t.size ≤ 1000000) (h : hdOk t = true) (hp : hpT t = p) (hn : hnT t = n) (hm : n = 60 * m) (hm2 : m ≤ 2000) (hp2 : p ≤ 16) :
    Calls Try.prog 12 #[.string t] w fun e w' => ∃ mb, e = .returned (.agg #[.int .i64 (p : Nat), .int .i64 (n : Nat), .map (some mb)]) ∧ MapPg w' mb t m ∧ Below w.heap.size w w' := by
  have HR := Lib.hid fun W => rh_any t W
  have HP := Lib.hid fun (j : Nat) (W : World) (hj : j ≤ 100000) => page_any t j W hj hs
  have hB := Blok.new w 28 #[.int .i64 0, .int .i64 0, .map none]
  have hb := (Below.refl w.heap.size w).alloc (Nat.le_refl _) (.cells #[.int .i64 0, .int .i64 0, .map none] 28)
  obtain ⟨w1, hw1⟩ : ∃ w1, w.alloc (.cells #[.int .i64 0, .int .i64 0, .map none] 28) = w1 := ⟨_, rfl⟩
  rw [hw1] at hB hb
  have HB := Lib.hid hB
  have HBE := Lib.hid hb
  have HH := Lib.hid (And.intro h (And.intro hp (And.intro hn hm)))
  obtain ⟨Z, hZ⟩ : ∃ Z, pgZ = Z := ⟨_, rfl⟩
  have z1 : Z.size = 60 := by rw [← hZ]; exact pgZ_size
  clear hB hb h hp hn
  go_enter Try.func12, Try.ntmps12
  go_wp2_with fail
  refine (HR.out _).mono ?_
  rintro e w2 ⟨hb2, ⟨hh, -⟩ | ⟨-, mb, hmb, rfl, hM⟩⟩
  · rw [HH.out.1] at hh; cases hh
  · rw [HH.out.2.1, HH.out.2.2.1]
    have hmlt := hM.lt
    have hw12 : w.heap.size < w1.heap.size := HB.out.lt
    have hBr := HB.out.after hb2
    have hBf := Blok.new w2 28 #[.int .i64 0, .int .i64 0, .map none]
    have hBr3 := hBr.alloc (.cells #[.int .i64 0, .int .i64 0, .map none] 28)
    have hM3 := hM.of_block (Below.heap_alloc w2 (.cells #[.int .i64 0, .int .i64 0, .map none] 28) mb hmlt)
    have hbl := (bj HBE.out hb2).alloc (bj HBE.out hb2).size (.cells #[.int .i64 0, .int .i64 0, .map none] 28)
    have hne : w.heap.size ≠ w2.heap.size := Nat.ne_of_lt hBr.lt
    have hne2 : mb ≠ w2.heap.size := Nat.ne_of_lt hmlt
    have hne3 : w.heap.size ≠ mb := by omega
    have hle : w.heap.size ≤ w2.heap.size := Nat.le_of_lt hBr.lt
    have hle2 : w.heap.size ≤ mb := by omega
    obtain ⟨fb, hfb⟩ : ∃ fb, w2.heap.size = fb := ⟨_, rfl⟩
    obtain ⟨w3, hw3⟩ : ∃ w3, w2.alloc (.cells #[.int .i64 0, .int .i64 0, .map none] 28) = w3 := ⟨_, rfl⟩
    rw [hw3] at hBf hBr3 hM3 hbl
    rw [hfb] at hBf hne hne2 hle
    have k0 := hBf.cell 0
    have k1 := hBf.cell 1
    have k2 := hBf.cell 2
    have f0 := hBf.frozen 0
    have f1 := hBf.frozen 1
    have f2 := hBf.frozen 2
    obtain ⟨C, hC⟩ : ∃ C : Array Value, #[.int .i64 (p : Nat), .int .i64 (n : Nat), .map (some mb)] = C := ⟨_, rfl⟩
    have hL : LdAt w (((w3.setCell ⟨fb, 0, none⟩ (.int .i64 (p : Nat))).setCell ⟨fb, 1, none⟩ (.int .i64 (n : Nat))).setCell ⟨fb, 2, none⟩ (.map (some mb))) fb mb C t 0 := by
      refine ⟨?_, ((hBr3.far hne _).far hne _).far hne _, hM3.of_block ((heap_setCell_other _ _ _ _ hne2).trans ((heap_setCell_other _ _ _ _ hne2).trans (heap_setCell_other _ _ _ _ hne2))), ((hbl.setCell hle _).setCell hle _).setCell hle _⟩
      rw [← hC]
      exact ((hBf.put 0 _).put 1 _).put 2 _
    have HL := Lib.hid hL
    have HC := Lib.hid hC
    have hq : IntKind.i64.wrap ((n : Int) / 60) = (m : Int) := by rw [IntKind.wrap_i64]; omega
    have hq2 : (n : Int) / 60 = (m : Int) := by omega
    have HX := Lib.hid (And.intro hne (And.intro hne2 (And.intro hne3 (And.intro hle hle2))))
    clear hL hbl hM3 hBr3 hBf hBr hM hb2 hmlt hm hC
    go_wp2
    have hL := HL.out
    obtain ⟨w4, hw4⟩ : ∃ w4, (((w3.setCell ⟨fb, 0, none⟩ (.int .i64 (p : Nat))).setCell ⟨fb, 1, none⟩ (.int .i64 (n : Nat))).setCell ⟨fb, 2, none⟩ (.map (some mb))) = w4 := ⟨_, rfl⟩
    rw [hw4] at hL ⊢
    clear HL hw4 hw3 hw1 hfb k0 k1 k2 f0 f1 f2 hne hne2 hne3 hle hle2
    go_loopw [12] (fun v wr => ∃ k : Nat, k ≤ m ∧ v = .int .i64 k ∧ LdAt w wr fb mb C t k) (fun v _ => m - (intOf v).toNat)
    case atStart => exact ⟨0, Nat.zero_le _, rfl, hL⟩
    case round =>
      clear hL
      obtain ⟨k, hk, rfl, hR⟩ := hrel
      by_cases hlt : k < m
      · have s1 : (k : Int) < (m : Int) := by omega
        have HK := Lib.hid (HP.out (k + 1) wr (by omega))
        obtain ⟨q, hq3⟩ : ∃ q, pgW t (k + 1) = q := ⟨_, rfl⟩
        obtain ⟨D, hD⟩ : ∃ D, pgC (pgL t (k + 1)) = D := ⟨_, rfl⟩
        have zD : D.size = 60 := by rw [← hD, pgC_size, pgL_length]
        have oD : D.all (·.oneCell') = true := by rw [← hD]; exact pgC_one _
        unfold pgV at HK
        rw [hq3, hD] at HK
        have e1 : ((k + 1 : Nat) : Int) = (k : Int) + 1 := by omega
        rw [e1] at HK
        have HQ := Lib.hid (And.intro hq3 hD)
        have HRR := Lib.hid hR
        clear hq3 hD hR e1
        go_wp2_with fail
        refine HK.out.mono ?_
        rintro e w5 ⟨rfl, b5⟩
        have hL5 := HRR.out.other b5
        have hG := Blok.new w5 63 Z
        have hL6 : LdAt w ((w5.alloc (.cells Z 63)).setRow w5.heap.size D) fb mb C t k := hL5.other (below_row ((Below.refl _ _).alloc (Nat.le_refl _) _) (Nat.le_refl _) D)
        have hG6 := hG.row D
        have hgm : mb ≠ w5.heap.size := Nat.ne_of_lt hL5.2.2.1.lt
        obtain ⟨g, hg⟩ : ∃ g, w5.heap.size = g := ⟨_, rfl⟩
        rw [hg] at hG hG6 hL6
        have hgg := Lib.hid hg
        cases q with
        | false =>
          have HG := Lib.hid hG
          have HL6 := Lib.hid hL6
          clear hL5 hL6 hG hG6 hgm b5
          go_wp2_with (first
            | (refine pg_alloc hZ rfl _ rfl rfl ?_; rw [hgg.out])
            | (refine pg_store rfl _ _ rfl rfl rfl HG.out z1 zD oD ?_))
          go_roundw
          case rel => exact ⟨k + 1, hlt, by go_num, HL6.out.1, HL6.out.2.1, HL6.out.2.2.1.skip HQ.out.1, HL6.out.2.2.2⟩
          case measure => simp [intOf]; omega
        | true =>
          obtain ⟨W6, hW6⟩ : ∃ W6, (w5.alloc (.cells Z 63)).setRow g D = W6 := ⟨_, rfl⟩
          rw [hW6] at hL6 hG6
          obtain ⟨w7, hrun, hM7, hg7⟩ := hL6.2.2.1.put (by omega) HQ.out.1
          rw [← pgL_yes HQ.out.1] at hrun
          unfold pgV at hrun
          rw [HQ.out.2] at hrun
          have hL7 : LdAt w w7 fb mb C t (k + 1) := by
            have hb7 := hg7.block
            refine ⟨(hb7 fb hL6.1.lt fun e => ?_).trans hL6.1, (hb7 _ hL6.2.1.lt fun e => ?_).trans hL6.2.1, hM7, hL6.2.2.2.grown hg7 hL6.2.2.2.size fun z hz => ?_⟩
            · injection e with e; exact HX.out.2.1 e.symm
            · injection e with e; exact HX.out.2.2.1 e
            · injection hz with hz; rw [← hz]; exact HX.out.2.2.2.2
          have c2 : W6.cell? ⟨fb, 2, none⟩ = some (.map (some mb)) := by rw [hL6.1.cell 2, ← HC.out]; rfl
          have HG := Lib.hid hG
          have HG6 := Lib.hid hG6
          have HL7 := Lib.hid hL7
          clear hL5 hL6 hG hG6 hgm b5 hM7 hg7 hL7
          go_wp2_with (first
            | (refine pg_alloc hZ rfl _ rfl rfl ?_; rw [hgg.out])
            | (refine pg_store rfl _ _ rfl rfl rfl HG.out z1 zD oD ?_; rw [hW6])
            | (refine pg_load rfl _ rfl rfl HG6.out zD ?_))
          go_roundw
          case rel => exact ⟨k + 1, hlt, by go_num, HL7.out⟩
          case measure => simp [intOf]; omega
      · obtain rfl : k = m := by omega
        have s1 : ¬ (k : Int) < (k : Int) := by omega
        have HRR := Lib.hid hR
        have k0 := (HC.out ▸ hR.1).cell 0
        have k1 := (HC.out ▸ hR.1).cell 1
        have k2 := (HC.out ▸ hR.1).cell 2
        have r0 := hR.2.1.cell 0
        have r1 := hR.2.1.cell 1
        have r2 := hR.2.1.cell 2
        have g0 := hR.2.1.frozen 0
        have g1 := hR.2.1.frozen 1
        have g2 := hR.2.1.frozen 2
        clear hR
        go_wp2
        refine fl_ret (p := 2) (g := w.heap.size) (t := 28) (C := #[.int .i64 (p : Nat), .int .i64 (n : Nat), .map (some mb)]) rfl rfl ?_ rfl rfl ?_
        · exact ((HRR.out.2.1.put 0 _).put 1 _).put 2 _
        · have e3 := HX.out.2.2.1.symm
          exact ⟨mb, rfl, HRR.out.2.2.1.of_block ((heap_setCell_other _ _ _ _ e3).trans ((heap_setCell_other _ _ _ _ e3).trans (heap_setCell_other _ _ _ _ e3))), ((HRR.out.2.2.2.setCell (Nat.le_refl _) _).setCell (Nat.le_refl _) _).setCell (Nat.le_refl _) _⟩

/-- A filter of a file's bytes. -/
theorem load_any (t : ByteArray) (w : World) (hs : t.size ≤ 1000000) :
    Calls Try.prog 12 #[.string t] w fun e w' => ∃ f, e = .returned f ∧ FilterAt w' f t ∧ Below w.heap.size w w' := by
  by_cases h : hdOk t = true
  · obtain ⟨g1, g2, g3, g4, g5⟩ := pgOk_iff.1 (hdOk_iff.1 h).2.1
    refine (load_yes t (hpT t) (hnT t) (hnT t / 60) w hs h rfl rfl (by omega) (by omega) (by omega)).mono ?_
    rintro e w' ⟨mb, rfl, hM, hb⟩
    exact ⟨_, rfl, Or.inr ⟨h, mb, rfl, hM⟩, hb⟩
  · have h := Bool.eq_false_iff.2 h
    refine (load_no t w h).mono ?_
    rintro e w' ⟨rfl, hb⟩
    exact ⟨_, rfl, Or.inl ⟨h, rfl⟩, hb⟩
end Go.Proofs.Ytfnppmiapjhjlaa

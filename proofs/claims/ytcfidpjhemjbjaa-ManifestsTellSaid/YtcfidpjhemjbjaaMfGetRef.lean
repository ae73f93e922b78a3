/- The manifest of some bytes: the document's Get. -/
import Derived.Test.YtcfidpjhemjbjaaMfGetRef0
import Derived.Test.YtcfidpjhemjbjaaMfGet
import Derived.Test.YtcfidpjhemjbjaaMfPutRef
namespace Go.Proofs.Ytcfidpjhemjbjaa
open Go.RowKit Go.Shelf
set_option linter.unusedVariables false
set_option maxRecDepth 100000

set_option maxHeartbeats 1000000 in
theorem mgetr_any (s : ByteArray) (w : World) (hs : s.size ≤ 100000) : Calls Try.prog 11 #[.string s] w (MfGetEnd w s) := by
  have HNUM := Lib.hid (fun (p n : Nat) W (hp1 : 1 ≤ p) (hp : p ≤ 200000) (hn1 : 1 ≤ n) (hn : n ≤ 8) => number_any s p n W hs hp1 hp hn1 hn)
  have N1 : Hid (∀ W, Calls Try.prog 27 #[.string s, .int .i64 4, .int .i64 4] W (NumEnd W (numD s 4 4))) := Lib.hid fun W => number_any s 4 4 W hs (by decide) (by decide) (by decide) (by decide)
  have N2 : Hid (∀ W, Calls Try.prog 27 #[.string s, .int .i64 8, .int .i64 4] W (NumEnd W (numD s 8 4))) := Lib.hid fun W => number_any s 8 4 W hs (by decide) (by decide) (by decide) (by decide)
  have N3 : Hid (∀ W, Calls Try.prog 27 #[.string s, .int .i64 12, .int .i64 8] W (NumEnd W (numD s 12 8))) := Lib.hid fun W => number_any s 12 8 W hs (by decide) (by decide) (by decide) (by decide)
  have N4 : Hid (∀ W, Calls Try.prog 27 #[.string s, .int .i64 20, .int .i64 1] W (NumEnd W (numD s 20 1))) := Lib.hid fun W => number_any s 20 1 W hs (by decide) (by decide) (by decide) (by decide)
  have b0 := numD_four s 4
  have b1 := numD_four s 8
  have b2 := numD_eight s 12
  have b3 := numD_one s 20
  have HMF := Lib.hid (fun n p L (h : MfAt s n p L) (hn : n ≤ numD s 20 1) he => mfd_end h hn he)
  unfold NumEnd at N1 N2 N3 N4 HNUM
  generalize numD s 4 4 = y0 at *
  generalize numD s 8 4 = y1 at *
  generalize numD s 12 8 = y2 at *
  generalize numD s 20 1 = n0 at *
  have q0 : IntKind.i64.wrap ((y0 : Nat) : Int) = ((y0 : Nat) : Int) := IntWalk.i64_in _ ⟨by omega, by omega⟩
  have q1 : IntKind.i64.wrap ((y1 : Nat) : Int) = ((y1 : Nat) : Int) := IntWalk.i64_in _ ⟨by omega, by omega⟩
  have q3 : IntKind.i64.wrap ((n0 : Nat) : Int) = ((n0 : Nat) : Int) := IntWalk.i64_in _ ⟨by omega, by omega⟩
  have HS := Lib.hid (RgB.start w (y0 : Nat) (y1 : Nat) y2)
  go_enter Try.func11, Try.ntmps11
  go_wp2_with fail
  refine (N1.out _).mono ?_
  rintro e w1 ⟨rfl, rfl⟩
  go_wp2_with fail
  refine (N2.out _).mono ?_
  rintro e w1 ⟨rfl, rfl⟩
  go_wp2_with fail
  refine (N3.out _).mono ?_
  rintro e w1 ⟨rfl, rfl⟩
  clear N1 N2 N3
  go_wp2
  go_loopg [5, 6] n0 (fun g u i wr => ∃ (j p : Nat) (M : List LvS) (A : Option Addr) (c : Nat), j + g = n0 ∧ i = .int .i64 j ∧ u = .int .i64 p ∧ 21 ≤ p ∧ (p ≤ s.size ∨ p = 21) ∧ RgB w (y0 : Nat) (y1 : Nat) y2 (.slice A j c) wr ∧ LvRow wr (w.heap.size + 2) (.slice A j c) M ∧ LvOwn wr (w.heap.size + 2) M ∧ j = M.length ∧ MfAt s j p (lvl M) ∧ ∀ x ∈ lvl M, x.length ≤ 255)
  case atStart => exact ⟨0, 21, [], none, 0, by omega, rfl, rfl, by omega, Or.inr rfl, HS.out, LvRow.nil _ _, fun x hx => (by cases hx), rfl, mf_start s, fun x hx => (by cases hx)⟩
  case round =>
    obtain ⟨j, p, M, A, c, hjg, rfl, rfl, hp21, hpz, hB, hR, hO, hJ, hAT, hW⟩ := hrel
    have HB := Lib.hid hB
    have HRW := Lib.hid hR
    have HOW := Lib.hid hO
    have HJ := Lib.hid hJ
    have HAT := Lib.hid hAT
    have HW := Lib.hid hW
    have HPZ := Lib.hid hpz
    clear hB hR hO hJ hAT hW HS hpz
    obtain ⟨wo, rfl⟩ : ∃ wo, wo = wr := ⟨_, rfl⟩
    by_cases hjn : j < n0
    case neg =>
      obtain rfl : j = n0 := by omega
      have l1 : decide ((j : Int) < (j : Int)) = false := decide_eq_false (by omega)
      have l2 : decide (j < j) = false := decide_eq_false (by omega)
      have hread : ReadsM s ⟨(y0 : Nat), (y1 : Nat), y2, lvl M⟩ := HMF.out _ _ _ HAT.out (by omega) (Or.inl rfl)
      have hfl := flat_bound (lvl M) HW.out
      rw [lvl_length, ← HJ.out] at hfl
      have HP := Lib.hid (mputr_any (y0 : Nat) (y1 : Nat) y2 A j c (lvl M) wo ⟨M, LvRow.in_ HRW.out HOW.out.each, rfl⟩ (by rw [lvl_length]; exact HJ.out) (by omega) (by rw [lvl_length, ← HJ.out]; omega) b2)
      have hgood := good_reads hread b2
      have HREAD := Lib.hid hread
      have HFL := Lib.hid (show (lvl M).flatten.length ≤ 100000 ∧ (lvl M).length ≤ 300 by rw [lvl_length, ← HJ.out]; omega)
      have HNO : Hid (¬ GoodM s → ∀ wf, Below w.heap.size w wf → MfGetEnd w s (.returned (.tuple #[manV 0 0 0 (.slice none 0 0), .int .i64 90])) wf) := Lib.hid fun hg wf hB => by
        obtain ⟨r1, r2⟩ := mg_no hg
        exact ⟨0, 0, 0, none, 0, 0, [], by rw [r1], by rw [r2]; rfl, rfl, LvsNew.nil _ _, hB, by decide, by decide, by decide⟩
      have HYES : Hid (GoodM s → ∀ wf, LvsNew wf w.heap.size (.slice A j c) (lvl M) → Below w.heap.size w wf → MfGetEnd w s (.returned (.tuple #[manV (y0 : Nat) (y1 : Nat) y2 (.slice A j c), .int .i64 0])) wf) := Lib.hid fun hg wf hN hB => by
        obtain ⟨r1, r2⟩ := mg_yes hg HREAD.out
        exact ⟨_, _, y2, A, j, c, lvl M, by rw [r1], r2, by rw [lvl_length]; exact HJ.out, hN, hB, b2, HFL.out.1, HFL.out.2⟩
      obtain ⟨k0, k1, k2, k3, -, -⟩ := HB.out.cells
      unfold MfPutEnd at HP
      unfold manV at HP
      clear hread hfl HNUM hjg hjn
      by_cases hm : MayM ⟨(y0 : Nat), (y1 : Nat), y2, lvl M⟩
      case neg =>
        have hg : ¬ GoodM s := fun h => hm (hgood.1 h).1
        have HNO := Lib.hid (HNO.out hg)
        obtain ⟨r1, r2⟩ := mf_no hm
        rw [r1, r2] at HP
        clear hgood HYES hg r1 r2 hm HREAD HFL
        go_wp2_with fail
        refine (N4.out _).mono ?_
        rintro e w9 ⟨rfl, hw9⟩
        obtain rfl : wo = w9 := hw9.symm
        go_wp2_with fail
        refine HP.out.mono ?_
        rintro e w2 ⟨rfl, hb2⟩
        have hD := mblok_below HB.out.b2 hb2
        have d0 := hD.cell 0
        have d1 := hD.cell 1
        have d2 := hD.cell 2
        have d3 := hD.cell 3
        have f0 := hD.frozen 0
        have f1 := hD.frozen 1
        have f2 := hD.frozen 2
        have f3 := hD.frozen 3
        simp only [List.getElem?_toArray] at d0 d1 d2 d3
        have HBW2 := Lib.hid (HB.out.bel.trans (hb2.mono HB.out.bel.size))
        have HD := Lib.hid hD
        clear hD hb2 HP k0 k1 k2 k3
        go_wp2
        have hM := manSet_blok HD.out (.int .i64 0) (.int .i64 0) (.int .u64 0) (.slice none 0 0)
        have hMB := manSet_below HBW2.out (Nat.le_refl _) (.int .i64 0) (.int .i64 0) (.int .u64 0) (.slice none 0 0)
        unfold manSet at hM hMB
        obtain ⟨wf, hwf⟩ : ∃ wf, wf = (((w2.setCell ⟨w.heap.size, 0, none⟩ (.int .i64 0)).setCell ⟨w.heap.size, 1, none⟩ (.int .i64 0)).setCell ⟨w.heap.size, 2, none⟩ (.int .u64 0)).setCell ⟨w.heap.size, 3, none⟩ (.slice none 0 0) := ⟨_, rfl⟩
        rw [← hwf] at hM hMB ⊢
        have e0 := hM.cell 0
        have e1 := hM.cell 1
        have e2 := hM.cell 2
        have e3 := hM.cell 3
        exact bodyPost_ret (v := .tuple #[manV 0 0 0 (.slice none 0 0), .int .i64 90]) (by simp [results, Try.results11, go_sem, e0, e1, e2, e3]; rfl) rfl (HNO.out wf hMB)
      obtain ⟨r1, r2⟩ := mf_yes hm
      rw [r1, r2] at HP
      generalize mfB ⟨(y0 : Nat), (y1 : Nat), y2, lvl M⟩ = T at *
      by_cases he : T = s
      case neg =>
        have hg : ¬ GoodM s := fun h => he (hgood.1 h).2
        have HNO := Lib.hid (HNO.out hg)
        obtain ⟨t1, t2, t3⟩ := ctxt_ne he
        clear hgood HYES hg r1 r2 hm he HREAD HFL
        go_wp2_with fail
        refine (N4.out _).mono ?_
        rintro e w9 ⟨rfl, hw9⟩
        obtain rfl : wo = w9 := hw9.symm
        go_wp2_with fail
        refine HP.out.mono ?_
        rintro e w2 ⟨rfl, hb2⟩
        have hD := mblok_below HB.out.b2 hb2
        have d0 := hD.cell 0
        have d1 := hD.cell 1
        have d2 := hD.cell 2
        have d3 := hD.cell 3
        have f0 := hD.frozen 0
        have f1 := hD.frozen 1
        have f2 := hD.frozen 2
        have f3 := hD.frozen 3
        simp only [List.getElem?_toArray] at d0 d1 d2 d3
        have HBW2 := Lib.hid (HB.out.bel.trans (hb2.mono HB.out.bel.size))
        have HD := Lib.hid hD
        clear hD hb2 HP k0 k1 k2 k3
        go_wp2
        have hM := manSet_blok HD.out (.int .i64 0) (.int .i64 0) (.int .u64 0) (.slice none 0 0)
        have hMB := manSet_below HBW2.out (Nat.le_refl _) (.int .i64 0) (.int .i64 0) (.int .u64 0) (.slice none 0 0)
        unfold manSet at hM hMB
        obtain ⟨wf, hwf⟩ : ∃ wf, wf = (((w2.setCell ⟨w.heap.size, 0, none⟩ (.int .i64 0)).setCell ⟨w.heap.size, 1, none⟩ (.int .i64 0)).setCell ⟨w.heap.size, 2, none⟩ (.int .u64 0)).setCell ⟨w.heap.size, 3, none⟩ (.slice none 0 0) := ⟨_, rfl⟩
        rw [← hwf] at hM hMB ⊢
        have e0 := hM.cell 0
        have e1 := hM.cell 1
        have e2 := hM.cell 2
        have e3 := hM.cell 3
        exact bodyPost_ret (v := .tuple #[manV 0 0 0 (.slice none 0 0), .int .i64 90]) (by simp [results, Try.results11, go_sem, e0, e1, e2, e3]; rfl) rfl (HNO.out wf hMB)
      case pos =>
        have hg : GoodM s := hgood.2 ⟨hm, he⟩
        have HY := Lib.hid (HYES.out hg)
        obtain ⟨t1, t2, t3⟩ := ctxt_eq he
        clear hgood HYES hg r1 r2 hm HREAD HFL HNO he
        go_wp2_with fail
        refine (N4.out _).mono ?_
        rintro e w9 ⟨rfl, hw9⟩
        obtain rfl : wo = w9 := hw9.symm
        go_wp2_with fail
        refine HP.out.mono ?_
        rintro e w2 ⟨rfl, hb2⟩
        have hD := mblok_below HB.out.b2 hb2
        have d0 := hD.cell 0
        have d1 := hD.cell 1
        have d2 := hD.cell 2
        have d3 := hD.cell 3
        have f0 := hD.frozen 0
        have f1 := hD.frozen 1
        have f2 := hD.frozen 2
        have f3 := hD.frozen 3
        simp only [List.getElem?_toArray] at d0 d1 d2 d3
        have HBW2 := Lib.hid (HB.out.bel.trans (hb2.mono HB.out.bel.size))
        have hE := mblok_below HB.out.b4 hb2
        have i0 := hE.cell 0
        have i1 := hE.cell 1
        have i2 := hE.cell 2
        have i3 := hE.cell 3
        simp only [List.getElem?_toArray] at i0 i1 i2 i3
        have hN2 := (LvsNew.below ⟨M, HRW.out, HOW.out, rfl⟩ hb2 (Nat.le_refl _) : LvsNew w2 (w.heap.size + 2) (.slice A j c) (lvl M))
        have HN2 := Lib.hid (hN2.manSet (show w.heap.size < w.heap.size + 2 by omega) (.int .i64 (y0 : Nat)) (.int .i64 (y1 : Nat)) (.int .u64 (y2 : Nat)) (.slice A j c))
        have HD := Lib.hid hD
        clear hD hb2 HP hE hN2 k0 k1 k2 k3
        go_wp2
        have hM := manSet_blok HD.out (.int .i64 (y0 : Nat)) (.int .i64 (y1 : Nat)) (.int .u64 (y2 : Nat)) (.slice A j c)
        have hMB := manSet_below HBW2.out (Nat.le_refl _) (.int .i64 (y0 : Nat)) (.int .i64 (y1 : Nat)) (.int .u64 (y2 : Nat)) (.slice A j c)
        have hMN := HN2.out
        unfold manSet at hM hMB hMN
        obtain ⟨wf, hwf⟩ : ∃ wf, wf = (((w2.setCell ⟨w.heap.size, 0, none⟩ (.int .i64 (y0 : Nat))).setCell ⟨w.heap.size, 1, none⟩ (.int .i64 (y1 : Nat))).setCell ⟨w.heap.size, 2, none⟩ (.int .u64 (y2 : Nat))).setCell ⟨w.heap.size, 3, none⟩ (.slice A j c) := ⟨_, rfl⟩
        rw [← hwf] at hM hMB hMN ⊢
        have e0 := hM.cell 0
        have e1 := hM.cell 1
        have e2 := hM.cell 2
        have e3 := hM.cell 3
        exact bodyPost_ret (v := .tuple #[manV (y0 : Nat) (y1 : Nat) y2 (.slice A j c), .int .i64 0]) (by simp [results, Try.results11, go_sem, e0, e1, e2, e3]; rfl) rfl (HY.out wf (hMN.down (by omega)) hMB)
    have l1 : decide ((j : Int) < (n0 : Int)) = true := decide_eq_true (by omega)
    have l1' : (j : Int) < (n0 : Int) := by omega
    by_cases hpn : p < s.size
    case neg =>
      have l3 : decide ((p : Int) < (s.size : Int)) = false := decide_eq_false (by omega)
      have l4 : decide (p < s.size) = false := decide_eq_false (by omega)
      have hread : ReadsM s ⟨(y0 : Nat), (y1 : Nat), y2, lvl M⟩ := HMF.out _ _ _ HAT.out (by omega) (Or.inr (by omega))
      have hfl := flat_bound (lvl M) HW.out
      rw [lvl_length, ← HJ.out] at hfl
      have HP := Lib.hid (mputr_any (y0 : Nat) (y1 : Nat) y2 A j c (lvl M) wo ⟨M, LvRow.in_ HRW.out HOW.out.each, rfl⟩ (by rw [lvl_length]; exact HJ.out) (by omega) (by rw [lvl_length, ← HJ.out]; omega) b2)
      have hgood := good_reads hread b2
      have HREAD := Lib.hid hread
      have HFL := Lib.hid (show (lvl M).flatten.length ≤ 100000 ∧ (lvl M).length ≤ 300 by rw [lvl_length, ← HJ.out]; omega)
      have HNO : Hid (¬ GoodM s → ∀ wf, Below w.heap.size w wf → MfGetEnd w s (.returned (.tuple #[manV 0 0 0 (.slice none 0 0), .int .i64 90])) wf) := Lib.hid fun hg wf hB => by
        obtain ⟨r1, r2⟩ := mg_no hg
        exact ⟨0, 0, 0, none, 0, 0, [], by rw [r1], by rw [r2]; rfl, rfl, LvsNew.nil _ _, hB, by decide, by decide, by decide⟩
      have HYES : Hid (GoodM s → ∀ wf, LvsNew wf w.heap.size (.slice A j c) (lvl M) → Below w.heap.size w wf → MfGetEnd w s (.returned (.tuple #[manV (y0 : Nat) (y1 : Nat) y2 (.slice A j c), .int .i64 0])) wf) := Lib.hid fun hg wf hN hB => by
        obtain ⟨r1, r2⟩ := mg_yes hg HREAD.out
        exact ⟨_, _, y2, A, j, c, lvl M, by rw [r1], r2, by rw [lvl_length]; exact HJ.out, hN, hB, b2, HFL.out.1, HFL.out.2⟩
      obtain ⟨k0, k1, k2, k3, -, -⟩ := HB.out.cells
      unfold MfPutEnd at HP
      unfold manV at HP
      clear hread hfl HNUM hjg hjn
      by_cases hm : MayM ⟨(y0 : Nat), (y1 : Nat), y2, lvl M⟩
      case neg =>
        have hg : ¬ GoodM s := fun h => hm (hgood.1 h).1
        have HNO := Lib.hid (HNO.out hg)
        obtain ⟨r1, r2⟩ := mf_no hm
        rw [r1, r2] at HP
        clear hgood HYES hg r1 r2 hm HREAD HFL
        go_wp2_with fail
        refine (N4.out _).mono ?_
        rintro e w9 ⟨rfl, hw9⟩
        obtain rfl : wo = w9 := hw9.symm
        go_wp2_with fail
        refine HP.out.mono ?_
        rintro e w2 ⟨rfl, hb2⟩
        have hD := mblok_below HB.out.b2 hb2
        have d0 := hD.cell 0
        have d1 := hD.cell 1
        have d2 := hD.cell 2
        have d3 := hD.cell 3
        have f0 := hD.frozen 0
        have f1 := hD.frozen 1
        have f2 := hD.frozen 2
        have f3 := hD.frozen 3
        simp only [List.getElem?_toArray] at d0 d1 d2 d3
        have HBW2 := Lib.hid (HB.out.bel.trans (hb2.mono HB.out.bel.size))
        have HD := Lib.hid hD
        clear hD hb2 HP k0 k1 k2 k3
        go_wp2
        have hM := manSet_blok HD.out (.int .i64 0) (.int .i64 0) (.int .u64 0) (.slice none 0 0)
        have hMB := manSet_below HBW2.out (Nat.le_refl _) (.int .i64 0) (.int .i64 0) (.int .u64 0) (.slice none 0 0)
        unfold manSet at hM hMB
        obtain ⟨wf, hwf⟩ : ∃ wf, wf = (((w2.setCell ⟨w.heap.size, 0, none⟩ (.int .i64 0)).setCell ⟨w.heap.size, 1, none⟩ (.int .i64 0)).setCell ⟨w.heap.size, 2, none⟩ (.int .u64 0)).setCell ⟨w.heap.size, 3, none⟩ (.slice none 0 0) := ⟨_, rfl⟩
        rw [← hwf] at hM hMB ⊢
        have e0 := hM.cell 0
        have e1 := hM.cell 1
        have e2 := hM.cell 2
        have e3 := hM.cell 3
        exact bodyPost_ret (v := .tuple #[manV 0 0 0 (.slice none 0 0), .int .i64 90]) (by simp [results, Try.results11, go_sem, e0, e1, e2, e3]; rfl) rfl (HNO.out wf hMB)
      obtain ⟨r1, r2⟩ := mf_yes hm
      rw [r1, r2] at HP
      generalize mfB ⟨(y0 : Nat), (y1 : Nat), y2, lvl M⟩ = T at *
      by_cases he : T = s
      case neg =>
        have hg : ¬ GoodM s := fun h => he (hgood.1 h).2
        have HNO := Lib.hid (HNO.out hg)
        obtain ⟨t1, t2, t3⟩ := ctxt_ne he
        clear hgood HYES hg r1 r2 hm he HREAD HFL
        go_wp2_with fail
        refine (N4.out _).mono ?_
        rintro e w9 ⟨rfl, hw9⟩
        obtain rfl : wo = w9 := hw9.symm
        go_wp2_with fail
        refine HP.out.mono ?_
        rintro e w2 ⟨rfl, hb2⟩
        have hD := mblok_below HB.out.b2 hb2
        have d0 := hD.cell 0
        have d1 := hD.cell 1
        have d2 := hD.cell 2
        have d3 := hD.cell 3
        have f0 := hD.frozen 0
        have f1 := hD.frozen 1
        have f2 := hD.frozen 2
        have f3 := hD.frozen 3
        simp only [List.getElem?_toArray] at d0 d1 d2 d3
        have HBW2 := Lib.hid (HB.out.bel.trans (hb2.mono HB.out.bel.size))
        have HD := Lib.hid hD
        clear hD hb2 HP k0 k1 k2 k3
        go_wp2
        have hM := manSet_blok HD.out (.int .i64 0) (.int .i64 0) (.int .u64 0) (.slice none 0 0)
        have hMB := manSet_below HBW2.out (Nat.le_refl _) (.int .i64 0) (.int .i64 0) (.int .u64 0) (.slice none 0 0)
        unfold manSet at hM hMB
        obtain ⟨wf, hwf⟩ : ∃ wf, wf = (((w2.setCell ⟨w.heap.size, 0, none⟩ (.int .i64 0)).setCell ⟨w.heap.size, 1, none⟩ (.int .i64 0)).setCell ⟨w.heap.size, 2, none⟩ (.int .u64 0)).setCell ⟨w.heap.size, 3, none⟩ (.slice none 0 0) := ⟨_, rfl⟩
        rw [← hwf] at hM hMB ⊢
        have e0 := hM.cell 0
        have e1 := hM.cell 1
        have e2 := hM.cell 2
        have e3 := hM.cell 3
        exact bodyPost_ret (v := .tuple #[manV 0 0 0 (.slice none 0 0), .int .i64 90]) (by simp [results, Try.results11, go_sem, e0, e1, e2, e3]; rfl) rfl (HNO.out wf hMB)
      case pos =>
        have hg : GoodM s := hgood.2 ⟨hm, he⟩
        have HY := Lib.hid (HYES.out hg)
        obtain ⟨t1, t2, t3⟩ := ctxt_eq he
        clear hgood HYES hg r1 r2 hm HREAD HFL HNO he
        go_wp2_with fail
        refine (N4.out _).mono ?_
        rintro e w9 ⟨rfl, hw9⟩
        obtain rfl : wo = w9 := hw9.symm
        go_wp2_with fail
        refine HP.out.mono ?_
        rintro e w2 ⟨rfl, hb2⟩
        have hD := mblok_below HB.out.b2 hb2
        have d0 := hD.cell 0
        have d1 := hD.cell 1
        have d2 := hD.cell 2
        have d3 := hD.cell 3
        have f0 := hD.frozen 0
        have f1 := hD.frozen 1
        have f2 := hD.frozen 2
        have f3 := hD.frozen 3
        simp only [List.getElem?_toArray] at d0 d1 d2 d3
        have HBW2 := Lib.hid (HB.out.bel.trans (hb2.mono HB.out.bel.size))
        have hE := mblok_below HB.out.b4 hb2
        have i0 := hE.cell 0
        have i1 := hE.cell 1
        have i2 := hE.cell 2
        have i3 := hE.cell 3
        simp only [List.getElem?_toArray] at i0 i1 i2 i3
        have hN2 := (LvsNew.below ⟨M, HRW.out, HOW.out, rfl⟩ hb2 (Nat.le_refl _) : LvsNew w2 (w.heap.size + 2) (.slice A j c) (lvl M))
        have HN2 := Lib.hid (hN2.manSet (show w.heap.size < w.heap.size + 2 by omega) (.int .i64 (y0 : Nat)) (.int .i64 (y1 : Nat)) (.int .u64 (y2 : Nat)) (.slice A j c))
        have HD := Lib.hid hD
        clear hD hb2 HP hE hN2 k0 k1 k2 k3
        go_wp2
        have hM := manSet_blok HD.out (.int .i64 (y0 : Nat)) (.int .i64 (y1 : Nat)) (.int .u64 (y2 : Nat)) (.slice A j c)
        have hMB := manSet_below HBW2.out (Nat.le_refl _) (.int .i64 (y0 : Nat)) (.int .i64 (y1 : Nat)) (.int .u64 (y2 : Nat)) (.slice A j c)
        have hMN := HN2.out
        unfold manSet at hM hMB hMN
        obtain ⟨wf, hwf⟩ : ∃ wf, wf = (((w2.setCell ⟨w.heap.size, 0, none⟩ (.int .i64 (y0 : Nat))).setCell ⟨w.heap.size, 1, none⟩ (.int .i64 (y1 : Nat))).setCell ⟨w.heap.size, 2, none⟩ (.int .u64 (y2 : Nat))).setCell ⟨w.heap.size, 3, none⟩ (.slice A j c) := ⟨_, rfl⟩
        rw [← hwf] at hM hMB hMN ⊢
        have e0 := hM.cell 0
        have e1 := hM.cell 1
        have e2 := hM.cell 2
        have e3 := hM.cell 3
        exact bodyPost_ret (v := .tuple #[manV (y0 : Nat) (y1 : Nat) y2 (.slice A j c), .int .i64 0]) (by simp [results, Try.results11, go_sem, e0, e1, e2, e3]; rfl) rfl (HY.out wf (hMN.down (by omega)) hMB)
    have l3 : decide ((p : Int) < (s.size : Int)) = true := decide_eq_true (by omega)
    have l3' : (p : Int) < (s.size : Int) := by omega
    cases gk with
    | zero => omega
    | succ gi0 =>
      have HN1 : Hid (∀ W, Calls Try.prog 27 #[.string s, .int .i64 (p : Nat), .int .i64 1] W fun e w' => e = .returned (.int .u64 (numD s p 1 : Nat)) ∧ w' = W) := Lib.hid fun W => HNUM.out p 1 W (by omega) (by omega) (by decide) (by decide)
      have hm255 := numD_one s p
      have hmn := numD_yes (s := s) (p := p) (n := 1) (by omega)
      generalize hmm : numD s p 1 = m at *
      have HMN := Lib.hid hmn.symm
      have qm : IntKind.i64.wrap ((m : Nat) : Int) = ((m : Nat) : Int) := IntWalk.i64_in _ ⟨by omega, by omega⟩
      have HHM := Lib.hid hmm
      clear hmm hmn
      go_wp2_with fail
      refine (N4.out _).mono ?_
      rintro e w9 ⟨rfl, hw9⟩
      obtain rfl : wo = w9 := hw9.symm
      go_wp2_with fail
      refine (HN1.out _).mono ?_
      rintro e w9 ⟨rfl, hw9⟩
      obtain rfl : wo = w9 := hw9.symm
      clear HN1
      go_wp2
      go_loopg [5, 8, 9] m (fun g a u i wx => ∃ (k : Nat) (A2 : Option Addr) (c2 : Nat), k + g = m ∧ i = .int .i64 k ∧ a = .int .i64 ((p + 1 + 4 * k : Nat) : Int) ∧ u = .slice A2 k c2 ∧ p + 1 + 4 * k ≤ s.size ∧ IRow wx wo.heap.size (.slice A2 k c2) (lvAt s (p + 1) k) ∧ Below wo.heap.size wo wx)
      case atStart => exact ⟨0, none, 0, by omega, rfl, by first | rfl | go_num, rfl, by omega, IRow.nil _ _, Below.refl _ _⟩
      case round =>
        obtain ⟨k, A2, c2, hkg, rfl, rfl, rfl, hkz, hrow, hbx⟩ := hrel
        have HROW := Lib.hid hrow
        have HBX := Lib.hid hbx
        clear hrow hbx
        by_cases hkm : k < m
        case neg =>
          obtain rfl : k = m := by omega
          have t1 : decide ((k : Int) < (k : Int)) = false := decide_eq_false (by omega)
          have t2 : decide (k < k) = false := decide_eq_false (by omega)
          have HRB := Lib.hid (HB.out.below HBX.out HB.out.b4.lt)
          obtain ⟨-, -, -, k3, kf, -⟩ := HRB.out.cells
          obtain ⟨w5, u5, e1, e2, e3, e4⟩ := lvls_more (x := ⟨.slice A2 k c2, lvAt s (p + 1) k⟩) (LvRow.below HRW.out HBX.out (Nat.le_refl _)) HJ.out (HOW.out.below HBX.out (Nat.le_refl _)) (IRow.down HROW.out (show w.heap.size + 2 ≤ wo.heap.size from HB.out.b4.lt)) (by omega) (Nat.le_trans (show w.heap.size + 2 ≤ wo.heap.size from HB.out.b4.lt) HBX.out.size) 23
          obtain ⟨A5, c5, rfl, e2⟩ := e2
          have HB5 := Lib.hid ((HRB.out.below e4 (Nat.le_refl _)).set3 (.slice A5 (j + 1) c5))
          have HR5 : Hid (LvRow (w5.setCell ⟨w.heap.size + 1, 3, none⟩ (.slice A5 (j + 1) c5)) (w.heap.size + 2) (.slice A5 (j + 1) c5) (M ++ [⟨.slice A2 k c2, lvAt s (p + 1) k⟩])) := Lib.hid (own_far e2 (fun e => by have := LvRow.block e2 (w.heap.size + 1) e; omega) _)
          have HO5 : Hid (LvOwn (w5.setCell ⟨w.heap.size + 1, 3, none⟩ (.slice A5 (j + 1) c5)) (w.heap.size + 2) (M ++ [⟨.slice A2 k c2, lvAt s (p + 1) k⟩])) := Lib.hid (fun y hy => own_far (e3 y hy) (fun e => by have := (IRow.block (e3 y hy) (w.heap.size + 1) e).1; omega) _)
          have HA5 : Hid (MfAt s (j + 1) (p + 1 + 4 * k) (lvl (M ++ [⟨.slice A2 k c2, lvAt s (p + 1) k⟩]))) := Lib.hid (by unfold lvl; rw [List.map_append]; exact mf_step HAT.out (by rw [HMN.out]; omega) (Or.inl HMN.out.symm))
          have HW5 : Hid (∀ x ∈ lvl (M ++ [⟨.slice A2 k c2, lvAt s (p + 1) k⟩]), x.length ≤ 255) := Lib.hid (fun x hx => by
            unfold lvl at hx
            rw [List.map_append] at hx
            rcases List.mem_append.1 hx with hx | hx
            · exact HW.out x hx
            · rw [List.mem_singleton.1 hx]
              show (lvAt s (p + 1) k).length ≤ 255
              rw [lvAt_length]
              omega)
          have HJ5 := Lib.hid (show j + 1 = (M ++ [(⟨.slice A2 k c2, lvAt s (p + 1) k⟩ : LvS)]).length by rw [List.length_append, ← HJ.out]; rfl)
          have HE1 := Lib.hid e1
          have k3' := mcell e4 (show w.heap.size + 1 < w.heap.size + 2 by omega) k3
          have kf' : w5.frozen? ⟨w.heap.size + 1, 3, none⟩ = false := ((HRB.out.below e4 (Nat.le_refl _)).cells).2.2.2.2.1
          simp only at HE1
          clear e1 e2 e3 e4 kf
          go_wp2_with (first | (at_builtin; refine wpList_append_two rfl _ _ rfl rfl rfl HE1.out ?_) | fail)
          go_roundg gi0
          case measure => omega
          case rel => exact ⟨j + 1, p + 1 + 4 * k, _, A5, c5, by omega, by go_num, by first | rfl | go_num, by omega, Or.inl hkz, HB5.out, HR5.out, HO5.out, HJ5.out, HA5.out, HW5.out⟩
        have t1 : decide ((k : Int) < (m : Int)) = true := decide_eq_true (by omega)
        have t1' : (k : Int) < (m : Int) := by omega
        by_cases hfit : p + 1 + 4 * k + 4 ≤ s.size
        case neg =>
          have t3 : decide (((p + 1 + 4 * k : Nat) : Int) + 4 ≤ (s.size : Int)) = false := decide_eq_false (by omega)
          have t4 : decide (p + 1 + 4 * k + 4 ≤ s.size) = false := decide_eq_false hfit
          have HRB := Lib.hid (HB.out.below HBX.out HB.out.b4.lt)
          obtain ⟨-, -, -, k3, kf, -⟩ := HRB.out.cells
          obtain ⟨w5, u5, e1, e2, e3, e4⟩ := lvls_more (x := ⟨.slice A2 k c2, lvAt s (p + 1) k⟩) (LvRow.below HRW.out HBX.out (Nat.le_refl _)) HJ.out (HOW.out.below HBX.out (Nat.le_refl _)) (IRow.down HROW.out (show w.heap.size + 2 ≤ wo.heap.size from HB.out.b4.lt)) (by omega) (Nat.le_trans (show w.heap.size + 2 ≤ wo.heap.size from HB.out.b4.lt) HBX.out.size) 23
          obtain ⟨A5, c5, rfl, e2⟩ := e2
          have HB5 := Lib.hid ((HRB.out.below e4 (Nat.le_refl _)).set3 (.slice A5 (j + 1) c5))
          have HR5 : Hid (LvRow (w5.setCell ⟨w.heap.size + 1, 3, none⟩ (.slice A5 (j + 1) c5)) (w.heap.size + 2) (.slice A5 (j + 1) c5) (M ++ [⟨.slice A2 k c2, lvAt s (p + 1) k⟩])) := Lib.hid (own_far e2 (fun e => by have := LvRow.block e2 (w.heap.size + 1) e; omega) _)
          have HO5 : Hid (LvOwn (w5.setCell ⟨w.heap.size + 1, 3, none⟩ (.slice A5 (j + 1) c5)) (w.heap.size + 2) (M ++ [⟨.slice A2 k c2, lvAt s (p + 1) k⟩])) := Lib.hid (fun y hy => own_far (e3 y hy) (fun e => by have := (IRow.block (e3 y hy) (w.heap.size + 1) e).1; omega) _)
          have HA5 : Hid (MfAt s (j + 1) (p + 1 + 4 * k) (lvl (M ++ [⟨.slice A2 k c2, lvAt s (p + 1) k⟩]))) := Lib.hid (by unfold lvl; rw [List.map_append]; exact mf_step HAT.out (by rw [HMN.out]; omega) (Or.inr (by omega)))
          have HW5 : Hid (∀ x ∈ lvl (M ++ [⟨.slice A2 k c2, lvAt s (p + 1) k⟩]), x.length ≤ 255) := Lib.hid (fun x hx => by
            unfold lvl at hx
            rw [List.map_append] at hx
            rcases List.mem_append.1 hx with hx | hx
            · exact HW.out x hx
            · rw [List.mem_singleton.1 hx]
              show (lvAt s (p + 1) k).length ≤ 255
              rw [lvAt_length]
              omega)
          have HJ5 := Lib.hid (show j + 1 = (M ++ [(⟨.slice A2 k c2, lvAt s (p + 1) k⟩ : LvS)]).length by rw [List.length_append, ← HJ.out]; rfl)
          have HE1 := Lib.hid e1
          have k3' := mcell e4 (show w.heap.size + 1 < w.heap.size + 2 by omega) k3
          have kf' : w5.frozen? ⟨w.heap.size + 1, 3, none⟩ = false := ((HRB.out.below e4 (Nat.le_refl _)).cells).2.2.2.2.1
          simp only at HE1
          clear e1 e2 e3 e4 kf
          go_wp2_with (first | (at_builtin; refine wpList_append_two rfl _ _ rfl rfl rfl HE1.out ?_) | fail)
          go_roundg gi0
          case measure => omega
          case rel => exact ⟨j + 1, p + 1 + 4 * k, _, A5, c5, by omega, by go_num, by first | rfl | go_num, by omega, Or.inl hkz, HB5.out, HR5.out, HO5.out, HJ5.out, HA5.out, HW5.out⟩
        cases gk with
        | zero => omega
        | succ gj =>
          have hx0 := numD_yes (s := s) (p := p + 1 + 4 * k) (n := 4) (by omega)
          have hxb := numD_four s (p + 1 + 4 * k)
          have hsucc := lvAt_succ s (p + 1) k
          rw [← hx0] at hsucc
          have HN1 : Hid (∀ W, Calls Try.prog 27 #[.string s, .int .i64 ((p + 1 + 4 * k : Nat) : Int), .int .i64 4] W fun e w' => e = .returned (.int .u64 (numD s (p + 1 + 4 * k) 4 : Nat)) ∧ w' = W) := Lib.hid fun W => HNUM.out (p + 1 + 4 * k) 4 W (by omega) (by omega) (by decide) (by decide)
          generalize numD s (p + 1 + 4 * k) 4 = x at *
          have HSU := Lib.hid hsucc
          have qx : IntKind.i64.wrap ((x : Nat) : Int) = ((x : Nat) : Int) := IntWalk.i64_in _ ⟨by omega, by omega⟩
          have HQ1 := Lib.hid (show p + 1 + 4 * (k + 1) ≤ s.size by omega)
          obtain ⟨w5, u5, e1, e2, e3⟩ := ints_more (x := ((x : Nat) : Int)) HROW.out (lvAt_length s (p + 1) k).symm (by omega) HBX.out.size 41
          obtain ⟨A5, c5, rfl, e2⟩ := e2
          rw [← hsucc] at e2
          have HE1 := Lib.hid e1
          have HR5 := Lib.hid e2
          have HB5 := Lib.hid (HBX.out.trans e3)
          obtain ⟨q, hq⟩ : ∃ q, q = p + 1 + 4 * k := ⟨_, rfl⟩
          have HQQ := Lib.hid hq
          rw [← hq] at HN1 hfit
          have q4 : q + 4 ≤ s.size := hfit
          have t3 : decide ((q : Int) + 4 ≤ (s.size : Int)) = true := decide_eq_true (by omega)
          clear e1 e2 e3 hx0 hxb hsucc hfit
          rw [← hq]
          clear hq
          go_wp2_with fail
          refine (HN1.out _).mono ?_
          rintro e w9 ⟨rfl, hw9⟩
          obtain rfl : wr = w9 := hw9.symm
          go_wp2_with (first | (at_builtin; refine wpList_append_two rfl _ _ rfl rfl rfl HE1.out ?_) | fail)
          go_roundg gj
          case measure => omega
          case rel => exact ⟨k + 1, A5, c5, by omega, by go_num, by have := HQQ.out; first | rfl | (congr 1; omega), rfl, HQ1.out, HR5.out, HB5.out⟩
end Go.Proofs.Ytcfidpjhemjbjaa

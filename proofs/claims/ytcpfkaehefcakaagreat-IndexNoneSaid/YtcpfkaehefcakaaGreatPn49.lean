/- ZnIxTake, ZnIxLay, ZnIxPlace, ZnIxFlush, ZnIxMerge, ZnIxStep, ZnIxOpen0, ZnIxStep2, ZnIxStep3, ZnIxStep4 -/
import Derived.Test.YtcpfkaehefcakaaGreatPn48
import Derived.Test.YtcpfkaehefcakaaGreatPn42
import Derived.Test.YtcpfkaehefcakaaGreatPn14
import Derived.Test.YtcpfkaehefcakaaGreatPn40
import Derived.Test.YtcpfkaehefcakaaGreatPn43
import Derived.Test.YtcpfkaehefcakaaGreatPn07
import Derived.Test.YtcpfkaehefcakaaGreatPn38
import Derived.Test.YtcpfkaehefcakaaGreatPn28
import Derived.Test.YtcpfkaehefcakaaGreatPn04
namespace Go.Proofs.YtcpfkaehefcakaaGreat
open Go.RowKit Go.Shelf
set_option linter.unusedVariables false
set_option maxRecDepth 100000
def takeP (D : DiskS) (n pe : Nat) (m : ManS) : Nat × DiskS := if pe ≠ 0 then (pe, D) else if openE D n ≠ 0 then (openE D n, openD D n) else swapP (openD D n) m
noncomputable def tabP (D : DiskS) (n : Nat) : TbS := ⟨n, tgL (rdW D (ptT n)).1, ldF (rdW D (ptT n)).2.2 n (tgL (rdW D (ptT n)).1)⟩
noncomputable def takeX (S : IxS) (D : DiskS) (n pe : Nat) (R : LvL) (check : Int) : IxS := if (takeP D n pe (nextM S R check)).1 = 0 then laidX S R check (tabP D n) S.mem else S
def Same8 (gx : Nat) (w w' : World) : Prop := w'.cell? ⟨gx, 8, none⟩ = w.cell? ⟨gx, 8, none⟩
theorem ix_ne : (86 : TypeId) ≠ 67 := by decide
section
variable {At : Lies} (api : DiskApi At) (nap : NamesApi) (iap : ImApi At) {w0 w w' : World} {gd gx r : Nat} {S : IxS} {D : DiskS} {E : List Nat}
include api nap iap
set_option maxHeartbeats 1000000 in
theorem xtake_run (h : IxAt At w0 gd gx r S D E w) (wf : WfP D) (hc : D.count ≤ 1000000) (n : Nat) (hn : S.m.next = (n : Nat)) (hn9 : n ≤ 999999) (hseed : S.m.seed < 18446744073709551616) (check : Int) (f : FuncId) (cap : Array Value) (hE : Enters Tryz.prog f) (R : LvL) (pe : Nat)
    (hpl : Calls Tryz.prog f (#[.int .i64 (n : Nat)] ++ cap) w (LvsEnd w R (pe : Nat))) (hR : R.flatten.length ≤ 100000) (hL : R.length ≤ 100000) (hop : (tgL (rdW D (ptT n)).1).length ≤ 10000) (hT : S.T.length ≤ 1000) :
    Calls Tryz.prog 93 #[ptr gx, .int .i64 (n : Nat), .int .i64 check, .func (.func f) #[] cap] w fun e w' => IxEnd At w0 gd gx r (err (takeP D n pe (nextM S R check)).1) (takeX S D n pe R check) (takeP D n pe (nextM S R check)).2 E w e w' ∧ Same8 gx w w' := by
  obtain ⟨Fm, Gr, Gk, d1, hM, d3, d4, d5, d6⟩ := h
  obtain ⟨gm, A, cp, B, c2, ps, hC⟩ := hM.cells
  obtain ⟨c0, c1, -, -, c4, -, c6, -, -⟩ := hC.cs
  have HC := Lib.hid hC
  have HD := Lib.hid (And.intro d1 (And.intro d3 (And.intro d4 (And.intro d5 d6))))
  have HERR : Hid (∀ (D' : DiskS) (W : World) (N : List Nat), DS At w0 gd D' (N ++ (Fm ++ (Gr ++ (Gk ++ E)))) W → Kept (Fm ++ (Gr ++ (Gk ++ E))) w W → (∀ b ∈ N, w.heap.size ≤ b) → IxAt At w0 gd gx r S D' E W ∧ Kept E w W ∧ Same8 gx w W) := Lib.hid fun D' W N hd hk hN =>
    ⟨(IxAt.back hM d1 d3 d4 d5 d6 hd hk hN).less (fun b hb => List.mem_append_right _ hb), hk.less (fun b hb => List.mem_append_right _ (List.mem_append_right _ (List.mem_append_right _ hb))), ((hk.blok hC.blok (List.mem_append_right _ (List.mem_append_left _ hC.own))).cell 8).trans (hC.blok.cell 8).symm⟩
  unfold LvsEnd at hpl
  have HPL := Lib.hid hpl
  have HR := Lib.hid hR
  have HL := Lib.hid hL
  have HOP := Lib.hid hop
  have HWF := Lib.hid wf
  have HCN := Lib.hid hc
  have HN := Lib.hid hn
  have HSE := Lib.hid hseed
  have HTL := Lib.hid hT
  unfold Enters at hE
  have wn : (Lit.int .i64 (n : Nat)).wf = true := WalkArith.wf_i64 (by omega)
  have WN := Lib.hid wn
  have hn1 : (n : Int) ≤ 999999 := by omega
  obtain ⟨k, hk⟩ : ∃ k, k = R.length := ⟨_, rfl⟩
  rw [← hk] at HPL
  have HK := Lib.hid hk
  obtain ⟨tp, htp⟩ : ∃ tp, takeP D n pe (nextM S R check) = tp := ⟨_, rfl⟩
  obtain ⟨tx, htx⟩ : ∃ tx, takeX S D n pe R check = tx := ⟨_, rfl⟩
  rw [htp, htx]
  have HTP := Lib.hid htp
  have HTX := Lib.hid htx
  clear htp htx
  clear hpl hC hM d1 d3 d4 d5 d6 hR hL hop wf hc hn hseed hT wn hn9 hk
  go_enter Tryz.func93, Tryz.ntmps93
  go_wp2_with fail
  refine HPL.out.mono ?_
  rintro e w1 ⟨A5, c5, rfl, r1, b1⟩
  obtain ⟨G2, hg2, hlv⟩ := r1.keep
  have D1 := HD.out.1.more api b1 hg2
  have K1 := Kept.of_below b1 HD.out.1.lt
  by_cases hpe : pe = 0
  case neg =>
    have t1 : ((pe : Int) != 0) = true := by simp; omega
    have e1 : takeP D n pe (nextM S R check) = (pe, D) := by unfold takeP; rw [if_pos hpe]
    have e2 : takeX S D n pe R check = S := by unfold takeX; rw [e1]; exact if_neg hpe
    have HE1 := Lib.hid (HTP.out.symm.trans e1)
    have HE2 := Lib.hid (HTX.out.symm.trans e2)
    have HF := Lib.hid (HERR.out D w1 G2 D1 K1 (fun b hb => (hg2 b hb).1))
    clear r1 b1 hg2 hlv D1 K1 e1 e2 hpe c0 c1 c4 c6
    go_wp2
    go_ret
    rw [HE1.out, HE2.out]
    exact ⟨⟨rfl, HF.out.1, HF.out.2.1⟩, HF.out.2.2⟩
  case pos =>
    subst hpe
    have c1' := (K1.blok HC.out.blok (List.mem_append_right _ (List.mem_append_left _ HC.out.own))).cell 1
    have HO := popen_all api nap D1 HWF.out (by have := HCN.out; omega) (n : Nat) WN.out (fun _ => HOP.out)
    unfold OpenTEnd at HO
    have HG2 := Lib.hid (And.intro hg2 (And.intro hlv (And.intro K1 b1)))
    have HO2 := Lib.hid HO
    clear r1 b1 hg2 hlv D1 K1 HO c0 c1
    by_cases ho : openE D n = 0
    case neg =>
      have t1 : ((openE D n : Int) != 0) = true := by simp; omega
      have e1 : takeP D n 0 (nextM S R check) = (openE D n, openD D n) := by unfold takeP; rw [if_neg (by decide), if_pos ho]
      have e2 : takeX S D n 0 R check = S := by unfold takeX; rw [e1]; exact if_neg ho
      have HE1 := Lib.hid (HTP.out.symm.trans e1)
      have HE2 := Lib.hid (HTX.out.symm.trans e2)
      have HO3 := Lib.hid (HO2.out.mono (fun e w' h => (h.resolve_left (fun q => ho q.1)).2))
      clear e1 e2 ho HO2 HTP HTX
      generalize openE D n = oe at *
      go_wp2_with fail
      refine HO3.out.mono ?_
      rintro e w2 ⟨rfl, d2, k2⟩
      have HF := Lib.hid (HERR.out _ w2 G2 d2 (HG2.out.2.2.1.trans (k2.less (fun b hb => List.mem_append_right _ hb))) (fun b hb => (HG2.out.1 b hb).1))
      clear d2 k2
      go_wp2
      go_ret
      rw [HE1.out, HE2.out]
      exact ⟨⟨rfl, HF.out.1, HF.out.2.1⟩, HF.out.2.2⟩
    case pos =>
      have HO3 := HO2.out.mono (fun e w' h => (h.resolve_right (fun q => q.1 ho)).2)
      unfold PEnd2 at HO3
      have HO4 := Lib.hid HO3
      have e0 : takeP D n 0 (nextM S R check) = swapP (openD D n) (nextM S R check) := by unfold takeP; rw [if_neg (by decide), if_neg (fun q => q ho)]
      have e00 : takeX S D n 0 R check = if (swapP (openD D n) (nextM S R check)).1 = 0 then laidX S R check (tabP D n) S.mem else S := by unfold takeX; rw [e0]
      have hzt : tabP D n = ⟨n, tgL (rdW D (ptT n)).1, ldF (rdW D (ptT n)).2.2 n (tgL (rdW D (ptT n)).1)⟩ := rfl
      rw [hzt] at e00
      have HE1 := Lib.hid (HTP.out.symm.trans e0)
      have HE2 := Lib.hid (HTX.out.symm.trans e00)
      have wo := wp_openD HWF.out (n : Nat)
      have HWO := Lib.hid wo
      clear ho HO2 HO3 e0 e00 hzt wo HOP HWF HCN HTP HTX
      generalize ldF (rdW D (ptT n)).2.2 n (tgL (rdW D (ptT n)).1) = ft at *
      generalize tgL (rdW D (ptT n)).1 = fl at *
      generalize openD D n = D2 at *
      go_wp2_with fail
      refine HO4.out.mono ?_
      rintro e w2 ⟨gt, H, rfl, hp, d2, k2, n2⟩
      -- the manifest
      have K2 : Kept (Fm ++ (Gr ++ (Gk ++ E))) w w2 := HG2.out.2.2.1.trans (k2.less (fun b hb => List.mem_append_right _ hb))
      have c4 := (K2.blok HC.out.blok (List.mem_append_right _ (List.mem_append_left _ HC.out.own))).cell 4
      have hA := (Below.refl w2.heap.size w2).alloc (Nat.le_refl _) (.cells #[.int .i64 ((n : Int) + 1), .int .i64 check, .int .u64 (S.m.seed : Nat), .slice A5 k c5] 38)
      have BM := Blok.new w2 38 #[.int .i64 ((n : Int) + 1), .int .i64 check, .int .u64 (S.m.seed : Nat), .slice A5 k c5]
      have D3 := d2.more api hA (B := [w2.heap.size]) (fun b hb => by rw [List.mem_singleton.1 hb]; exact ⟨Nat.le_refl _, BM.lt⟩)
      have K3 : Kept (H ++ (G2 ++ (Fm ++ (Gr ++ (Gk ++ E))))) w2 (w2.alloc (.cells #[.int .i64 ((n : Int) + 1), .int .i64 check, .int .u64 (S.m.seed : Nat), .slice A5 k c5] 38)) := Kept.of_below hA d2.lt
      obtain ⟨gb, hgb⟩ : ∃ gb, w2.heap.size = gb := ⟨_, rfl⟩
      rw [hgb] at BM D3
      obtain ⟨w3, hw3⟩ : ∃ w3, w2.alloc (.cells #[.int .i64 ((n : Int) + 1), .int .i64 check, .int .u64 (S.m.seed : Nat), .slice A5 k c5] 38) = w3 := ⟨_, rfl⟩
      rw [hw3] at BM D3 K3 hA
      have HGB := Lib.hid (show w.heap.size ≤ gb from by have := K2.size; omega)
      have P3 := Lib.hid (hp.below hA)
      have D4 := D3.drew api
      have LV3 : LvKeep w3.drew (.slice A5 k c5) R G2 := (HG2.out.2.1.step (k2.less (fun b hb => List.mem_append_left _ hb))).step ((K3.less (fun b hb => List.mem_append_right _ (List.mem_append_left _ hb))).drew)
      have hNk : ∀ b ∈ G2, b ∈ [gb] ++ (H ++ (G2 ++ (Fm ++ (Gr ++ (Gk ++ E))))) := fun b hb => List.mem_append_right _ (List.mem_append_right _ (List.mem_append_left _ hb))
      have HO : Holds w0 ([gb] ++ (H ++ (G2 ++ (Fm ++ (Gr ++ (Gk ++ E)))))) w3.drew (.slice A5 k c5) R := fun W _ hkW => LV3 W (hkW.less hNk)
      have HSW := Lib.hid (iap.swap ((n : Int) + 1) check S.m.seed A5 k c5 R D4 HWO.out HO HK.out HR.out HL.out HSE.out)
      have K4 : Kept (Fm ++ (Gr ++ (Gk ++ E))) w w3.drew := (K2.trans (K3.less (fun b hb => List.mem_append_right _ (List.mem_append_right _ hb)))).drew
      have HK4 := Lib.hid K4
      have HLV := Lib.hid LV3
      have HBM := Lib.hid BM
      have hN2 : ∀ b ∈ [gb] ++ (H ++ G2), w.heap.size ≤ b := fun b hb => by
        have := HG2.out.2.2.2.size
        rcases List.mem_append.1 hb with q | q
        · rw [List.mem_singleton.1 q]; exact HGB.out
        · rcases List.mem_append.1 q with q | q
          · have := n2 b q; omega
          · exact (HG2.out.1 b q).1
      have HN2 := Lib.hid hN2
      have c1 : w3.drew.cell? ⟨gx, 1, none⟩ = some (ptr gd) := (K4.blok HC.out.blok (List.mem_append_right _ (List.mem_append_left _ HC.out.own))).cell 1
      obtain ⟨m0, m1, m2, m3⟩ := four_cells BM
      have hS0 : w3.drew.cell? ⟨gx, 1, none⟩ = some (ptr gd) ∧ w3.drew.cell? ⟨gb, 0, none⟩ = some (.int .i64 ((n : Int) + 1)) ∧ w3.drew.cell? ⟨gb, 1, none⟩ = some (.int .i64 check) ∧ w3.drew.cell? ⟨gb, 2, none⟩ = some (.int .u64 (S.m.seed : Nat)) ∧ w3.drew.cell? ⟨gb, 3, none⟩ = some (.slice A5 k c5) := ⟨c1, m0, m1, m2, m3⟩
      have hM2 : nextM S R check = ⟨(n : Int) + 1, check, S.m.seed, R⟩ := by unfold nextM; rw [HN.out]
      rw [hM2] at HE1 HE2
      unfold DEnd at HSW
      unfold manV at HSW
      clear hA D3 K3 K2 D4 LV3 HO K4 BM hN2 c1 m0 m1 m2 m3 hp d2 k2 n2 hNk hM2
      generalize hsp : swapP D2 ⟨(n : Int) + 1, check, S.m.seed, R⟩ = sp at *
      have HCK : Hid (∀ W, Kept ([gb] ++ (H ++ (G2 ++ (Fm ++ (Gr ++ (Gk ++ E)))))) w3.drew W → W.cell? ⟨gx, 1, none⟩ = some (ptr gd) ∧ W.cell? ⟨gb, 0, none⟩ = some (.int .i64 ((n : Int) + 1)) ∧ W.cell? ⟨gb, 1, none⟩ = some (.int .i64 check) ∧ W.cell? ⟨gb, 2, none⟩ = some (.int .u64 (S.m.seed : Nat)) ∧ W.cell? ⟨gb, 3, none⟩ = some (.slice A5 k c5)) := Lib.hid fun W hkW => by
        have B1 := (HK4.out.trans (hkW.less (fun b hb => List.mem_append_right _ (List.mem_append_right _ (List.mem_append_right _ hb))))).blok HC.out.blok (List.mem_append_right _ (List.mem_append_left _ HC.out.own))
        have B2 := hkW.blok HBM.out.drew (List.mem_append_left _ List.mem_cons_self)
        exact ⟨B1.cell 1, four_cells B2⟩
      clear hsp
      go_wp2_with fail
      go_region_held3 (fun W => W.cell? ⟨gx, 1, none⟩ = some (ptr gd) ∧ W.cell? ⟨gb, 0, none⟩ = some (.int .i64 ((n : Int) + 1)) ∧ W.cell? ⟨gb, 1, none⟩ = some (.int .i64 check) ∧ W.cell? ⟨gb, 2, none⟩ = some (.int .u64 (S.m.seed : Nat)) ∧ W.cell? ⟨gb, 3, none⟩ = some (.slice A5 k c5))
        (first | (with_reducible assumption) | fail)
        (first
        | (go_at_call 154; ((with_reducible refine HSW.out.mono ?_); rintro e w4 ⟨rfl, d4, k4⟩; have hS4 := HCK.out w4 k4))
        | fail)
      obtain ⟨sp1, D5⟩ := sp
      simp only at d4 hS4 HE1 HE2
      have d5 : DS At w0 gd D5 (([gb] ++ (H ++ G2)) ++ (Fm ++ (Gr ++ (Gk ++ E)))) w4 := by
        rw [List.append_assoc, List.append_assoc]
        exact d4
      have K5 : Kept (Fm ++ (Gr ++ (Gk ++ E))) w w4 := HK4.out.trans (k4.less (fun b hb => List.mem_append_right _ (List.mem_append_right _ (List.mem_append_right _ hb))))
      have LV5 : LvKeep w4 (.slice A5 k c5) R G2 := HLV.out.step (k4.less (fun b hb => List.mem_append_right _ (List.mem_append_right _ (List.mem_append_left _ hb))))
      have P5 := P3.out.drew.keep k4 (fun b hb => List.mem_append_right _ (List.mem_append_left _ hb))
      have BM5 := k4.blok HBM.out.drew (List.mem_append_left _ List.mem_cons_self)
      by_cases hsp0 : sp1 = 0
      case neg =>
        have t1 : ((sp1 : Int) != 0) = true := by simp; omega
        have HF := Lib.hid (HERR.out D5 w4 _ d5 K5 HN2.out)
        have HE3 := Lib.hid (show tx = S from by rw [HE2.out]; exact if_neg hsp0)
        clear d4 d5 k4 K5 LV5 P5 BM5 hsp0 hS4
        go_wp2
        go_ret
        rw [HE1.out, HE3.out]
        exact ⟨⟨rfl, HF.out.1, HF.out.2.1⟩, HF.out.2.2⟩
      case pos =>
        subst hsp0
        have HAL := lall_any (.slice A5 k c5) R w4 LV5.now HR.out HL.out
        unfold IntsOut at HAL
        have HAL2 := Lib.hid HAL
        have H5 := Lib.hid (And.intro d5 (And.intro K5 (And.intro LV5 (And.intro P5 BM5))))
        obtain ⟨kf, hkf⟩ : ∃ kf, kf = R.flatten.length := ⟨_, rfl⟩
        rw [← hkf] at HAL2
        have HKF := Lib.hid hkf
        clear d4 d5 k4 K5 LV5 P5 BM5 hS4 HAL hkf
        go_wp2_with fail
        refine HAL2.out.mono ?_
        rintro e w5 ⟨A6, c6', rfl, r6, b6⟩
        have hA6 := (Below.refl w5.heap.size w5).alloc (Nat.le_refl _) (.cells #[.slice A6 kf c6'] 68)
        have B6 := Blok.new w5 68 #[.slice A6 kf c6']
        obtain ⟨g6, hg6⟩ : ∃ g6, w5.heap.size = g6 := ⟨_, rfl⟩
        rw [hg6] at B6
        obtain ⟨w6, hw6⟩ : ∃ w6, w5.alloc (.cells #[.slice A6 kf c6'] 68) = w6 := ⟨_, rfl⟩
        rw [hw6] at hA6 B6
        have b46 : Below w4.heap.size w4 w6 := b6.trans (hA6.mono b6.size)
        have hlt4 := H5.out.1.lt
        have K46 : Kept (([gb] ++ (H ++ G2)) ++ (Fm ++ (Gr ++ (Gk ++ E)))) w4 w6 := Kept.of_below b46 hlt4
        have K6 : Kept (Fm ++ (Gr ++ (Gk ++ E))) w w6 := H5.out.2.1.trans (K46.less (fun b hb => List.mem_append_right _ hb))
        have cB6 := K6.blok HC.out.blok (List.mem_append_right _ (List.mem_append_left _ HC.out.own))
        have c6 := cB6.cell 6
        have c6z := cB6.frozen 6
        have R6 := K6.prow HC.out.row (fun b hb => List.mem_append_right _ (List.mem_append_left _ (HC.out.rowOwn b hb)))
        have T6 := HC.out.tabs.keep K6 (fun b hb => List.mem_append_right _ (List.mem_append_right _ (List.mem_append_left _ hb)))
        have I6 : IntsIn w6 (.slice A6 kf c6') R.flatten := (IRow.in_ r6).below hA6 (Nat.le_refl _)
        have ho6 : ∀ b ∈ ownL (.slice A6 kf c6'), w4.heap.size ≤ b ∧ b < w5.heap.size := fun b hb => r6.lt b (ownL_mem.1 hb)
        have hrl : ∀ b ∈ ownL (.slice B ps.length c2), b ∈ Gr ∧ b < w4.heap.size := fun b hb => ⟨HC.out.rowOwn b hb, hlt4 b (List.mem_append_right _ (List.mem_append_right _ (List.mem_append_left _ (HC.out.rowOwn b hb))))⟩
        have HDL := Lib.hid (del_any (E := Gk ++ (g6 :: ownL (.slice A6 kf c6'))) T6 R6 B6 I6 (by have := HR.out; omega) (by rw [HC.out.tabs.1]; exact HTL.out) (fun b hb => List.mem_append_left _ hb) (List.mem_append_right _ List.mem_cons_self) (fun b hb => List.mem_append_right _ (List.mem_cons_of_mem _ hb)) (fun b hb => by
          have z5 := b6.size
          have z6 := hA6.size
          rcases List.mem_append.1 hb with q | q
          · refine ⟨fun hm => (HD.out.2.2.1 b (hrl b hm).1).1 q, ?_⟩
            have := hlt4 b (List.mem_append_right _ (List.mem_append_right _ (List.mem_append_right _ (List.mem_append_left _ q))))
            omega
          · rcases List.mem_cons.1 q with e | q
            · refine ⟨fun hm => ?_, by rw [e]; exact B6.lt⟩
              have := (hrl b hm).2
              omega
            · refine ⟨fun hm => ?_, by have := (ho6 b q).2; omega⟩
              have := (hrl b hm).2
              have := (ho6 b q).1
              omega))
        have HGX := Lib.hid (show gx ∉ ownL (.slice B ps.length c2) from fun hm => own_ne R6 cB6 ix_ne (ownL_mem.1 hm))
        have HRL := Lib.hid (fun (b : Nat) (hb : b ∈ ownL (.slice B ps.length c2)) => (show b < w.heap.size from HD.out.1.lt b (List.mem_append_right _ (List.mem_append_left _ (hrl b hb).1))))
        have HB46 := Lib.hid (And.intro b46 (And.intro K46 (And.intro K6 cB6)))
        have hmf : ∀ (fn : Fn) (first cap : Array Value) (w : World), (Instr.makeFunc fn first cap).run Tryz.prog w = .ok (.func fn first cap) w := fun _ _ _ _ => rfl
        clear r6 b6 hA6 B6 b46 hlt4 K46 K6 cB6 R6 T6 I6 ho6 hrl
        go_wp2_with fail
        refine HDL.out.mono ?_
        rintro e w7 ⟨u, rfl, r7, o7, t7⟩
        obtain ⟨B7, c7, rfl, -, -, -⟩ := r7.form
        have hll : (leftP ps S.T R.flatten).length ≤ 1000 := by
          unfold leftP
          rw [List.length_map]
          refine Nat.le_trans (List.length_filter_le _ _) ?_
          rw [List.length_zip]
          have := HTL.out
          omega
        obtain ⟨n7, hn7⟩ : ∃ n7, n7 = (leftP ps S.T R.flatten).length := ⟨_, rfl⟩
        rw [← hn7] at r7 o7
        rw [← hn7]
        have X7 := HB46.out.2.2.2.touch t7 HGX.out
        have x6 := X7.cell 6
        have f6 := X7.frozen 6
        have X8 := X7.put 6 (.slice B7 n7 c7)
        have hne7 : (Value.slice B7 n7 c7).ownBlock ≠ some gx := fun e => HGX.out (by rw [← o7]; exact ownL_mem.2 e)
        have r8 : PRow (w7.setCell ⟨gx, 6, none⟩ (.slice B7 n7 c7)) w0.heap.size (.slice B7 n7 c7) (leftP ps S.T R.flatten) := own_far (p := ⟨gx, 6, none⟩) r7 hne7 _
        have t8 : Touch (gx :: ownL (.slice B ps.length c2)) w4 (w7.setCell ⟨gx, 6, none⟩ (.slice B7 n7 c7)) := (((Touch.of_below HB46.out.1).more (fun x hx => by cases hx)).trans t7 (fun x hx => Or.inl (List.mem_cons_of_mem _ hx))).setCell (p := ⟨gx, 6, none⟩) (Or.inl List.mem_cons_self) _
        have hgbr : gb ∉ ownL (.slice B ps.length c2) := fun hm => by have := HRL.out gb hm; have := HGB.out; omega
        have hgbx : gx ≠ gb := fun e => by
          have h1 := HD.out.1.lt gx (List.mem_append_right _ (List.mem_append_left _ HC.out.own))
          have := HGB.out
          omega
        have M8 := ((Blok.below H5.out.2.2.2.2 HB46.out.1).touch t7 hgbr).far (p := ⟨gx, 6, none⟩) (fun e => hgbx e.symm) (.slice B7 n7 c7)
        obtain ⟨w8, hw8⟩ : ∃ w8, w7.setCell ⟨gx, 6, none⟩ (.slice B7 n7 c7) = w8 := ⟨_, rfl⟩
        rw [hw8] at r8 t8 X8 M8
        have c6 := X8.cell 6
        have hz8 : w0.heap.size ≤ w8.heap.size := by have := HD.out.1.kept.size; have := H5.out.2.1.size; have := t8.size; omega
        obtain ⟨A9, c9, w9, e9, r9, t9, o9⟩ := prow_append gt 64 r8 hn7 (by omega) hz8
        have X9 := X8.touch t9 (fun hm => HGX.out (by rw [← o7]; exact hm))
        have M9 := M8.touch t9 (fun hm => hgbr (by rw [← o7]; exact hm))
        have y6 := X9.cell 6
        have g9 := X9.frozen 6
        have X10 := X9.put 6 (.slice A9 (n7 + 1) c9)
        have M10 := M9.far (p := ⟨gx, 6, none⟩) (fun e => hgbx e.symm) (.slice A9 (n7 + 1) c9)
        have hne9 : (Value.slice A9 (n7 + 1) c9).ownBlock ≠ some gx := own_ne r9 X9 ix_ne
        have r10 : PRow (w9.setCell ⟨gx, 6, none⟩ (.slice A9 (n7 + 1) c9)) w0.heap.size (.slice A9 (n7 + 1) c9) (leftP ps S.T R.flatten ++ [gt]) := own_far (p := ⟨gx, 6, none⟩) r9 hne9 _
        have t10 : Touch (gx :: ownL (.slice B ps.length c2)) w4 (w9.setCell ⟨gx, 6, none⟩ (.slice A9 (n7 + 1) c9)) := (t8.trans t9 (fun x hx => Or.inl (List.mem_cons_of_mem _ (by rw [← o7]; exact hx)))).setCell (p := ⟨gx, 6, none⟩) (Or.inl List.mem_cons_self) _
        have HO9 := Lib.hid (fun (b : Nat) (hb : b ∈ ownL (.slice A9 (n7 + 1) c9)) => (show b ∈ ownL (.slice B ps.length c2) ∨ (w4.heap.size ≤ b ∧ b < w9.heap.size) from by
          rcases o9 b hb with q | q
          · exact Or.inl (by rw [← o7]; exact q)
          · exact Or.inr ⟨Nat.le_trans t8.size q.1, q.2⟩))
        have HE9 := Lib.hid e9
        have hz9 : (w9.setCell ⟨gx, 6, none⟩ (.slice A9 (n7 + 1) c9)).heap.size = w9.heap.size := by simp [World.setCell]
        obtain ⟨w10, hw10⟩ : ∃ w10, w9.setCell ⟨gx, 6, none⟩ (.slice A9 (n7 + 1) c9) = w10 := ⟨_, rfl⟩
        rw [hw10] at r10 t10 X10 M10 hz9
        obtain ⟨m0, m1, m2, m3⟩ := four_cells M10
        have z2 := X10.cell 2
        have z3 := X10.cell 3
        have z4 := X10.cell 4
        have z5 := X10.cell 5
        have v2 := X10.frozen 2
        have v3 := X10.frozen 3
        have v4 := X10.frozen 4
        have v5 := X10.frozen 5
        have HX10 := Lib.hid (And.intro X10 (And.intro r10 (And.intro t10 hz9)))
        clear r7 o7 t7 hll X7 X8 hne7 r8 t8 hgbr hgbx M8 hz8 e9 r9 t9 o9 X9 M9 X10 M10 hne9 r10 t10 hz9 hn7
        go_wp2_with (first | (at_builtin; refine wpList_append_two rfl _ _ rfl rfl rfl HE9.out ?_) | fail)
        go_ret
        have HE3 := HE2.out
        rw [if_pos (by trivial)] at HE3
        rw [HE1.out, HE3]
        obtain ⟨X10, r10, t10, hz9⟩ := HX10.out
        have q1 := r10
        have F1 : Blok ((((w10.setCell ⟨gx, 2, none⟩ (.int .i64 ((n : Int) + 1))).setCell ⟨gx, 3, none⟩ (.int .i64 check)).setCell ⟨gx, 4, none⟩ (.int .u64 (S.m.seed : Nat))).setCell ⟨gx, 5, none⟩ (.slice A5 k c5)) gx 67 #[ptr gx, ptr gd, .int .i64 (S.m.next + 1), .int .i64 check, .int .u64 (S.m.seed : Nat), .slice A5 k c5, .slice A9 (n7 + 1) c9, .float .f64 r, mtp gm] := by
          rw [HN.out]
          exact (((X10.put 2 _).put 3 _).put 4 _).put 5 _
        have hne10 : (Value.slice A9 (n7 + 1) c9).ownBlock ≠ some gx := own_ne r10 X10 ix_ne
        have F2 : PRow ((((w10.setCell ⟨gx, 2, none⟩ (.int .i64 ((n : Int) + 1))).setCell ⟨gx, 3, none⟩ (.int .i64 check)).setCell ⟨gx, 4, none⟩ (.int .u64 (S.m.seed : Nat))).setCell ⟨gx, 5, none⟩ (.slice A5 k c5)) w0.heap.size (.slice A9 (n7 + 1) c9) (leftP ps S.T R.flatten ++ [gt]) := own_far (own_far (own_far (own_far r10 hne10 _) hne10 _) hne10 _) hne10 _
        have F3 : Touch (gx :: ownL (.slice B ps.length c2)) w4 ((((w10.setCell ⟨gx, 2, none⟩ (.int .i64 ((n : Int) + 1))).setCell ⟨gx, 3, none⟩ (.int .i64 check)).setCell ⟨gx, 4, none⟩ (.int .u64 (S.m.seed : Nat))).setCell ⟨gx, 5, none⟩ (.slice A5 k c5)) := (((t10.setCell (p := ⟨gx, 2, none⟩) (Or.inl List.mem_cons_self) _).setCell (p := ⟨gx, 3, none⟩) (Or.inl List.mem_cons_self) _).setCell (p := ⟨gx, 4, none⟩) (Or.inl List.mem_cons_self) _).setCell (p := ⟨gx, 5, none⟩) (Or.inl List.mem_cons_self) _
        have F4 : ((((w10.setCell ⟨gx, 2, none⟩ (.int .i64 ((n : Int) + 1))).setCell ⟨gx, 3, none⟩ (.int .i64 check)).setCell ⟨gx, 4, none⟩ (.int .u64 (S.m.seed : Nat))).setCell ⟨gx, 5, none⟩ (.slice A5 k c5)).heap.size = w9.heap.size := by simp only [World.setCell, Array.size_modify] at hz9 ⊢; exact hz9
        obtain ⟨d5, K5, LV5, P5, BM5⟩ := H5.out
        obtain ⟨d1, d3, d4, d5', d6⟩ := HD.out
        have HT := take_fin (N := [gb] ++ (H ++ G2)) (G2 := G2) (H := H) api HC.out d1 d3 d4 d5' d6 d5 K5 HN2.out LV5 (fun b hb => List.mem_append_right _ (List.mem_append_right _ hb)) P5 (fun b hb => List.mem_append_right _ (List.mem_append_left _ hb)) HN.out F3 F1 F2 (fun b hb => by
          rcases HO9.out b hb with q | q
          · exact Or.inl q
          · exact Or.inr ⟨q.1, by rw [F4]; exact q.2⟩)
        exact ⟨⟨rfl, HT⟩, (F1.cell 8).trans (HC.out.blok.cell 8).symm⟩
end
end Go.Proofs.YtcpfkaehefcakaaGreat
namespace Go.Proofs.YtcpfkaehefcakaaGreat
open Go.RowKit Go.Shelf
set_option linter.unusedVariables false
set_option maxRecDepth 100000
def layI (D : DiskS) (n : Nat) (l : List EntS) (t : ByteArray) (pe : Nat) (m : ManS) : Nat × DiskS :=
  if (writeP D n l t).1 ≠ 0 then writeP D n l t
  else if (takeP (writeP D n l t).2 n pe m).1 ≠ 0 then ((takeP (writeP D n l t).2 n pe m).1, (dropP (takeP (writeP D n l t).2 n pe m).2 n).2)
  else takeP (writeP D n l t).2 n pe m
noncomputable def layIX (S : IxS) (D : DiskS) (n : Nat) (l : List EntS) (t : ByteArray) (pe : Nat) (R : LvL) (check : Int) : IxS := if (writeP D n l t).1 ≠ 0 then S else takeX S (writeP D n l t).2 n pe R check
theorem wp_take {D : DiskS} (h : WfP D) (n pe : Nat) (m : ManS) : WfP (takeP D n pe m).2 := by
  unfold takeP
  split
  · exact h
  · split
    · exact wp_openD h _
    · exact wp_swap (wp_openD h _) m
section
variable {At : Lies} (api : DiskApi At) (nap : NamesApi) (iap : ImApi At) {w0 w w' : World} {gd gx r : Nat} {S : IxS} {D : DiskS} {E : List Nat}
theorem IxAt.quiet8 {D' : DiskS} (h : IxAt At w0 gd gx r S D E w) {P : Program} {f : FuncId} {args : Array Value} {Q : Ending → World → Prop}
    (hc : ∀ E', (∀ b ∈ E, b ∈ E') → DS At w0 gd D E' w → Calls P f args w fun e w' => DS At w0 gd D' E' w' ∧ Kept E' w w' ∧ Q e w') : Calls P f args w fun e w' => IxAt At w0 gd gx r S D' E w' ∧ Kept E w w' ∧ Same8 gx w w' ∧ Q e w' := by
  obtain ⟨Fm, Gr, Gk, h1, h2, h3, h4, h5, h6⟩ := h
  obtain ⟨gm, A, cp, B, c2, ps, hC⟩ := h2.cells
  refine (hc _ (fun b hb => List.mem_append_right _ (List.mem_append_right _ (List.mem_append_right _ hb))) h1).mono ?_
  rintro e w' ⟨d, k, q⟩
  refine ⟨IxAt.back (N := []) h2 h1 h3 h4 h5 h6 d k (fun b hb => by cases hb), k.less (fun b hb => List.mem_append_right _ (List.mem_append_right _ (List.mem_append_right _ hb))), ?_, q⟩
  exact ((k.blok hC.blok (List.mem_append_right _ (List.mem_append_left _ hC.own))).cell 8).trans (hC.blok.cell 8).symm
include api nap iap
set_option maxHeartbeats 1000000 in
theorem xlay_run (h : IxAt At w0 gd gx r S D E w) (wf : WfP D) (hd : D.down = false) (hc : D.count ≤ 1000000) (n : Nat) (hn : S.m.next = (n : Nat)) (hn9 : n ≤ 999999) (hseed : S.m.seed < 18446744073709551616) (hr : r < 18446744073709551616)
    (v : Value) (l : List EntS) (hv : EntsIn w v l) (hvE : ∀ b ∈ ownL v, b ∈ E) (hl : l.length ≤ 1000) (hok : ∀ x ∈ l, EntOk x) (ht : tbOk l = true)
    (check : Int) (f : FuncId) (cap : Array Value) (hE : Enters Tryz.prog f) (R : LvL) (pe : Nat)
    (hpl : ∀ W D', IxAt At w0 gd gx r S D' E W → Kept E w W → Calls Tryz.prog f (#[.int .i64 (n : Nat)] ++ cap) W (LvsEnd W R (pe : Nat))) (hR : R.flatten.length ≤ 100000) (hL : R.length ≤ 100000)
    (hop : ∀ t, FltOf l r t → (writeP D n l t).1 = 0 → (tgL (rdW (writeP D n l t).2 (ptT n)).1).length ≤ 10000) (hT : S.T.length ≤ 1000) :
    Calls Tryz.prog 42 #[ptr gx, v, .int .i64 check, .func (.func f) #[] cap] w fun e w' => ∃ t, FltOf l r t ∧ IxEnd At w0 gd gx r (err (layI D n l t pe (nextM S R check)).1) (layIX S D n l t pe R check) (layI D n l t pe (nextM S R check)).2 E w e w' ∧ Same8 gx w w' := by
  have hI := h
  obtain ⟨Fm, Gr, Gk, d1, hM, d3, d4, d5, d6⟩ := h
  obtain ⟨gm, A, cp, B, c2, ps, hC⟩ := hM.cells
  obtain ⟨c0, c1, c2', -, -, -, -, c7, -⟩ := hC.cs
  rw [hn] at c2'
  have wn : (Lit.int .i64 (n : Nat)).wf = true := WalkArith.wf_i64 (by omega)
  have hvn : EntsIn w.drew v l := hv.below (Below.refl _ _).drew (Nat.le_refl _)
  have hW := pwrite_run api nap (d1.drew api) wf (n : Nat) wn v l hvn hl hok r hr (pt_full hn9) ht hd
  have HWR := Lib.hid hW
  have hS0 : w.drew.cell? ⟨gx, 1, none⟩ = some (ptr gd) ∧ w.drew.cell? ⟨gx, 7, none⟩ = some (.float .f64 r) := ⟨c1, c7⟩
  have HI := Lib.hid hI
  have HBK : Hid (∀ (D' : DiskS) (W : World), DS At w0 gd D' (Fm ++ (Gr ++ (Gk ++ E))) W → Kept (Fm ++ (Gr ++ (Gk ++ E))) w.drew W → IxAt At w0 gd gx r S D' E W ∧ Kept E w W ∧ (W.cell? ⟨gx, 1, none⟩ = some (ptr gd) ∧ W.cell? ⟨gx, 7, none⟩ = some (.float .f64 r)) ∧ Same8 gx w W) := Lib.hid fun D' W hd hk => by
    have hk2 : Kept (Fm ++ (Gr ++ (Gk ++ E))) w W := (Kept.refl _ w).drew.trans hk
    have B1 := hk2.blok hC.blok (List.mem_append_right _ (List.mem_append_left _ hC.own))
    exact ⟨IxAt.back (N := []) hM d1 d3 d4 d5 d6 hd hk2 (fun b hb => by cases hb), hk2.less (fun b hb => List.mem_append_right _ (List.mem_append_right _ (List.mem_append_right _ hb))), ⟨B1.cell 1, B1.cell 7⟩, (B1.cell 8).trans (hC.blok.cell 8).symm⟩
  have HTK : Hid (∀ t, FltOf l r t → (writeP D n l t).1 = 0 → ∀ W, IxAt At w0 gd gx r S (writeP D n l t).2 E W → Kept E w W → Calls Tryz.prog 93 #[ptr gx, .int .i64 (n : Nat), .int .i64 check, .func (.func f) #[] cap] W fun e w' => (IxEnd At w0 gd gx r (err (takeP (writeP D n l t).2 n pe (nextM S R check)).1) (takeX S (writeP D n l t).2 n pe R check) (takeP (writeP D n l t).2 n pe (nextM S R check)).2 E W e w' ∧ Same8 gx W w')) := Lib.hid fun t ht h0 W hW hk =>
    xtake_run api nap iap hW (wp_write wf _ _ _) (by rw [(sd_write D n l t).count]; exact hc) n hn hn9 hseed check f cap hE R pe (hpl W _ hW hk) hR hL (hop t ht h0) hT
  have HDR : Hid (∀ t (S' : IxS) W, IxAt At w0 gd gx r S' (takeP (writeP D n l t).2 n pe (nextM S R check)).2 E W → Calls Tryz.prog 53 #[ptr gd, .int .i64 (n : Nat)] W fun e w' => IxAt At w0 gd gx r S' (dropP (takeP (writeP D n l t).2 n pe (nextM S R check)).2 n).2 E w' ∧ Kept E W w' ∧ Same8 gx W w' ∧ e = .returned (err (dropP (takeP (writeP D n l t).2 n pe (nextM S R check)).2 n).1)) := Lib.hid fun t S' W hW =>
    hW.quiet8 (fun E' _ hd => (pdrop_run api nap hd (wp_take (wp_write wf _ _ _) _ _ _) (n : Nat) wn).mono fun e w' h => ⟨h.2.1, h.2.2, h.1⟩)
  have HGX1 : Hid (∀ (S' : IxS) (D' : DiskS) W, IxAt At w0 gd gx r S' D' E W → W.cell? ⟨gx, 1, none⟩ = some (ptr gd)) := Lib.hid fun S' D' W hW => by
    obtain ⟨_, _, _, _, hM', _⟩ := hW
    obtain ⟨_, _, _, _, _, _, hC'⟩ := hM'.cells
    exact hC'.cs.2.1
  obtain ⟨Av, ov, cv, rfl, -, -⟩ := hv.form
  obtain ⟨nv, hnv⟩ : ∃ nv, nv = l.length := ⟨_, rfl⟩
  rw [← hnv] at HWR ⊢
  clear hI d1 hM hC d3 d4 d5 d6 wf hd hc hn hn9 hseed hr hv hvE hl hok ht hE hpl hR hL hop hT wn hvn hW hnv c0
  go_enter Tryz.func42, Tryz.ntmps42
  go_wp2_with fail
  go_region_held3 (fun W => W.cell? ⟨gx, 1, none⟩ = some (ptr gd) ∧ W.cell? ⟨gx, 7, none⟩ = some (.float .f64 r))
    (first | (with_reducible assumption) | fail)
    (first
    | (go_at_call 92; ((with_reducible refine HWR.out.mono ?_); rintro e w4 ⟨t, hft, rfl, d4, k4⟩; have hI4 := HBK.out _ w4 d4 k4; have hS4 := hI4.2.2.1))
    | fail)
  have HI4 := Lib.hid hI4
  have HFT := Lib.hid hft
  clear hI4 d4 k4 hft HWR HBK hS0
  by_cases hw0 : (writeP D n l t).1 = 0
  case neg =>
    have t1 : (((writeP D n l t).1 : Int) != 0) = true := by simp; omega
    have HE : Hid (layI D n l t pe (nextM S R check) = writeP D n l t ∧ layIX S D n l t pe R check = S) := Lib.hid ⟨by unfold layI; rw [if_pos hw0], by unfold layIX; rw [if_pos hw0]⟩
    clear hw0 hS4
    have HQ := Lib.hid (show ∀ z, (writeP D n l t).1 = z → (writeP D n l t).1 = z from fun z h => h)
    obtain ⟨z, hz⟩ : ∃ z, (writeP D n l t).1 = z := ⟨_, rfl⟩
    have HZ := Lib.hid hz
    rw [hz] at t1 ⊢
    clear hz
    go_wp2
    go_ret
    refine ⟨t, HFT.out, ?_⟩
    rw [HE.out.1, HE.out.2, HZ.out]
    exact ⟨⟨rfl, HI4.out.1, HI4.out.2.1⟩, HI4.out.2.2.2⟩
  case pos =>
    have t1 : (((writeP D n l t).1 : Int) != 0) = false := by rw [hw0]; rfl
    have HTK2 := HTK.out t HFT.out hw0 w4 HI4.out.1 HI4.out.2.1
    have HDR2 := Lib.hid (HDR.out t)
    unfold IxEnd at HTK2
    have HTK3 := Lib.hid HTK2
    have HE : Hid (((takeP (writeP D n l t).2 n pe (nextM S R check)).1 = 0 → layI D n l t pe (nextM S R check) = takeP (writeP D n l t).2 n pe (nextM S R check)) ∧ ((takeP (writeP D n l t).2 n pe (nextM S R check)).1 ≠ 0 → layI D n l t pe (nextM S R check) = ((takeP (writeP D n l t).2 n pe (nextM S R check)).1, (dropP (takeP (writeP D n l t).2 n pe (nextM S R check)).2 n).2)) ∧ layIX S D n l t pe R check = takeX S (writeP D n l t).2 n pe R check) := Lib.hid ⟨fun q => by unfold layI; rw [if_neg (fun h => h hw0), if_neg (fun h => h q)], fun q => by unfold layI; rw [if_neg (fun h => h hw0), if_pos q], by unfold layIX; rw [if_neg (fun h => h hw0)]⟩
    rw [hw0]
    clear HTK HDR HTK2 hw0 t1 hS4
    generalize takeX S (writeP D n l t).2 n pe R check = tx at *
    generalize takeP (writeP D n l t).2 n pe (nextM S R check) = tp at *
    obtain ⟨tp1, D5⟩ := tp
    simp only at HTK3 HDR2 HE
    go_wp2_with fail
    refine HTK3.out.mono ?_
    rintro e w5 ⟨⟨rfl, i5, k5⟩, s5⟩
    have H5 := Lib.hid (And.intro i5 (And.intro (HI4.out.2.1.trans k5) (s5.trans HI4.out.2.2.2)))
    have c1 := HGX1.out _ _ _ i5
    clear i5 k5 s5 HTK3
    by_cases ht0 : tp1 = 0
    case pos =>
      subst ht0
      go_wp2
      go_ret
      refine ⟨t, HFT.out, ?_⟩
      rw [HE.out.1 (by trivial), HE.out.2.2]
      exact ⟨⟨rfl, H5.out.1, H5.out.2.1⟩, H5.out.2.2⟩
    case neg =>
      have t1 : ((tp1 : Int) != 0) = true := by simp; omega
      have HT0 := Lib.hid ht0
      have HD5 := Lib.hid (HDR2.out tx w5 H5.out.1)
      clear ht0 HDR2
      go_wp2_with fail
      refine HD5.out.mono ?_
      rintro e w6 ⟨i6, k6, s6, rfl⟩
      have H6 := Lib.hid (And.intro i6 (And.intro (H5.out.2.1.trans k6) (s6.trans H5.out.2.2)))
      clear i6 k6 s6
      go_wp2
      go_ret
      refine ⟨t, HFT.out, ?_⟩
      rw [HE.out.2.1 HT0.out, HE.out.2.2]
      exact ⟨⟨rfl, H6.out.1, H6.out.2.1⟩, H6.out.2.2⟩
end
end Go.Proofs.YtcpfkaehefcakaaGreat
namespace Go.Proofs.YtcpfkaehefcakaaGreat
open Go.RowKit Go.Shelf
set_option linter.unusedVariables false
set_option maxRecDepth 100000
theorem addL_small (L : LvL) (n : Int) : (addL L n).length ≤ 5 ∧ (addL L n).flatten.length ≤ 41 := by
  by_cases h : addLE L n = 0
  · have := addL_ok h
    exact ⟨this.1.1, by have := this.1.2.1; omega⟩
  · unfold addL
    rw [if_neg h]
    exact ⟨Nat.zero_le _, Nat.zero_le _⟩
theorem replL_small (L : LvL) (k n : Int) : (replL L k n).length ≤ 5 ∧ (replL L k n).flatten.length ≤ 41 := by
  by_cases h : replE L k n = 0
  · have := replL_ok h
    exact ⟨this.1.1, by have := this.1.2.1; omega⟩
  · unfold replL
    rw [if_neg h]
    exact ⟨Nat.zero_le _, Nat.zero_le _⟩
section
variable {At : Lies} (api : DiskApi At) {w0 w W : World} {gd gx r gb gk : Nat} {S : IxS} {D : DiskS} {E : List Nat}
theorem IxAt.lvs (h : IxAt At w0 gd gx r S D E w) : ∃ A cp, w.cell? ⟨gx, 5, none⟩ = some (.slice A S.m.lv.length cp) ∧ LvsHas w (.slice A S.m.lv.length cp) S.m.lv := by
  obtain ⟨Fm, Gr, Gk, -, hM, -⟩ := h
  obtain ⟨gm, A, cp, B, c2, ps, hC⟩ := hM.cells
  exact ⟨A, cp, hC.cs.2.2.2.2.2.1, hC.lv.now⟩
theorem fplace_run (h : IxAt At w0 gd gx r S D E W) (hm : MayM S.m) (hb : Blok W gb 32 #[ptr gx]) (n : Int) (k : Nat) (hk : addLE S.m.lv n = (k : Nat)) :
    Calls Tryz.prog 44 (#[.int .i64 n] ++ #[ptr gb]) W (LvsEnd W (addL S.m.lv n) (k : Nat)) := by
  obtain ⟨A, cp, c5, hv⟩ := h.lvs
  have b0 := hb.cell 0
  have HA := ladd_any _ S.m.lv n W hv (by have := hm.2.2.2.2.1.2.1; omega) (by have := hm.2.2.2.2.1.1; omega)
  rw [hk] at HA
  unfold LvsEnd at HA ⊢
  have HA2 := Lib.hid HA
  show Calls Tryz.prog 44 #[.int .i64 n, ptr gb] W _
  obtain ⟨m, hmm⟩ : ∃ m, m = (addL S.m.lv n).length := ⟨_, rfl⟩
  have HMM := Lib.hid hmm
  rw [← hmm] at HA2 ⊢
  clear h hm hb hk hv HA hmm
  generalize addL S.m.lv n = R at *
  go_enter Tryz.func44, Tryz.ntmps44
  go_wp2_with fail
  refine HA2.out.mono ?_
  rintro e w1 ⟨A1, c1, rfl, r1, b1⟩
  have H1 := Lib.hid (And.intro r1 b1)
  clear r1 b1
  go_wp2
  go_ret2
  exact ⟨A1, c1, rfl, H1.out.1, H1.out.2⟩
theorem mplace_run (h : IxAt At w0 gd gx r S D E W) (hm : MayM S.m) (hb : Blok W gb 32 #[ptr gx]) (level : Int) (hb2 : Blok W gk 3 #[.int .i64 level]) (n : Int) (k : Nat) (hk : replE S.m.lv level n = (k : Nat)) :
    Calls Tryz.prog 51 (#[.int .i64 n] ++ #[ptr gb, ptr gk]) W (LvsEnd W (replL S.m.lv level n) (k : Nat)) := by
  obtain ⟨A, cp, c5, hv⟩ := h.lvs
  have b0 := hb.cell 0
  have b2 := hb2.cell 0
  have HA := lrepl_any _ S.m.lv level n W.drew (hv.below (Below.refl _ _).drew (Nat.le_refl _)) (by have := hm.2.2.2.2.1.2.1; omega) (by have := hm.2.2.2.2.1.1; omega)
  rw [hk] at HA
  unfold LvsEnd at HA ⊢
  have HA2 := Lib.hid HA
  show Calls Tryz.prog 51 #[.int .i64 n, ptr gb, ptr gk] W _
  obtain ⟨m, hmm⟩ : ∃ m, m = (replL S.m.lv level n).length := ⟨_, rfl⟩
  have HMM := Lib.hid hmm
  rw [← hmm] at HA2 ⊢
  have hS0 : W.drew.cell? ⟨gb, 0, none⟩ = some (ptr gx) ∧ W.drew.cell? ⟨gk, 0, none⟩ = some (.int .i64 level) ∧ W.drew.cell? ⟨gx, 5, none⟩ = some (.slice A S.m.lv.length cp) := ⟨b0, b2, c5⟩
  have HSK : Hid (∀ w', Below W.drew.heap.size W.drew w' → w'.cell? ⟨gb, 0, none⟩ = some (ptr gx) ∧ w'.cell? ⟨gk, 0, none⟩ = some (.int .i64 level) ∧ w'.cell? ⟨gx, 5, none⟩ = some (.slice A S.m.lv.length cp)) := Lib.hid fun w' hw =>
    ⟨(hw.cell (p := ⟨gb, 0, none⟩) (World.block_lt_of_cell? W _ b0)).trans b0, (hw.cell (p := ⟨gk, 0, none⟩) (World.block_lt_of_cell? W _ b2)).trans b2, (hw.cell (p := ⟨gx, 5, none⟩) (World.block_lt_of_cell? W _ c5)).trans c5⟩
  clear h hm hb hb2 hk hv HA hmm
  generalize replL S.m.lv level n = R at *
  generalize S.m.lv.length = lvn at *
  go_enter Tryz.func51, Tryz.ntmps51
  go_wp2_with fail
  go_region_held3 (fun w' => w'.cell? ⟨gb, 0, none⟩ = some (ptr gx) ∧ w'.cell? ⟨gk, 0, none⟩ = some (.int .i64 level) ∧ w'.cell? ⟨gx, 5, none⟩ = some (.slice A lvn cp))
    (first | (with_reducible assumption) | fail)
    (first
    | (go_at_call 52; ((with_reducible refine HA2.out.mono ?_); rintro e w1 ⟨A1, c1, rfl, r1, b1⟩; have hS1 := HSK.out w1 b1))
    | fail)
  have H1 := Lib.hid (And.intro r1 b1)
  clear r1 b1 hS1
  go_wp2
  go_ret2
  exact ⟨A1, c1, rfl, H1.out.1, (Below.refl _ W).drew.trans H1.out.2⟩
end
end Go.Proofs.YtcpfkaehefcakaaGreat
namespace Go.Proofs.YtcpfkaehefcakaaGreat
open Go.RowKit Go.Shelf
set_option linter.unusedVariables false
set_option maxRecDepth 100000
theorem xflush_none {w : World} {p l : Value} (h : IxNone w p) : Calls Tryz.prog 9 #[p, l] w fun e w' => e = .returned (.int .i64 1) ∧ Below w.heap.size w w' := by
  have hb := (Below.refl w.heap.size w).alloc (Nat.le_refl _) (.cells #[p] 32)
  have hn := Lib.hid (xnone_any (h.below hb))
  have HB := Lib.hid hb
  rcases h with rfl | ⟨g, rfl, h2⟩
  all_goals
    clear hb
    go_enter Tryz.func9, Tryz.ntmps9
    go_wp2_with fail
    refine hn.out.mono ?_
    rintro e w' ⟨rfl, rfl⟩
    go_wp2
    go_ret
    exact ⟨rfl, HB.out⟩
def flushI (f : Nat) (D : DiskS) (S : IxS) (t : ByteArray) (n pe : Nat) (en : Int) : Nat × DiskS :=
  if f ≠ 0 then (f, D) else if S.mem = [] then (0, D) else layI D n S.mem t pe (nextM S (addL S.m.lv n) en)
noncomputable def flushIX (f : Nat) (D : DiskS) (S : IxS) (t : ByteArray) (n pe : Nat) (en : Int) : IxS :=
  if f ≠ 0 then S else if S.mem = [] then S
  else if (layI D n S.mem t pe (nextM S (addL S.m.lv n) en)).1 = 0 then { layIX S D n S.mem t pe (addL S.m.lv n) en with mem := [] } else layIX S D n S.mem t pe (addL S.m.lv n) en
theorem IxM.tab {w : World} {base gx gd r : Nat} {S : IxS} {Fm Gr Gk : List Nat} (h : IxM w base gx gd r S Fm Gr Gk) : ∃ gm, w.cell? ⟨gx, 8, none⟩ = some (mtp gm) ∧ TabAt w base gm Fm S.mem := by
  obtain ⟨gm, A, cp, B, c2, ps, hC⟩ := h.cells
  exact ⟨gm, hC.cs.2.2.2.2.2.2.2.2, hC.mem⟩
section
variable {At : Lies} (api : DiskApi At) (nap : NamesApi) (iap : ImApi At) {w0 w w' : World} {gd gl gx r : Nat} {S : IxS} {D : DiskS} {E : List Nat} {L : LogS}
include api in
theorem xclear_run (h : IxAt At w0 gd gx r S D E w) : ∃ gm, w.cell? ⟨gx, 8, none⟩ = some (mtp gm) ∧ Calls Tryz.prog 46 #[mtp gm] w fun e w' => e = .returned (.tuple #[]) ∧ IxAt At w0 gd gx r { S with mem := [] } D E w' ∧ Kept E w w' := by
  obtain ⟨Fm, Gr, Gk, d1, hM, d3, d4, d5, d6⟩ := h
  obtain ⟨gm, A, cp, B, c2, ps, hC⟩ := hM.cells
  refine ⟨gm, hC.cs.2.2.2.2.2.2.2.2, (tclear_run hC.mem).mono ?_⟩
  rintro e w' ⟨F', rfl, h1, h2, h3⟩
  exact ⟨rfl, IxAt.mem_end api d1 hC d3 d4 d5 d6 h1 h2 h3⟩
include api nap iap
set_option maxHeartbeats 2000000 in
theorem xflush_run (h : IxAt At w0 gd gx r S D (gl :: E) w) (hlg : Blok w gl 78 (logCells (ptr gl) gd L)) (hgl : gl ∉ E) (hlow : w0.heap.size ≤ gl) (wf : WfP D) (hch : L.chunks ≤ 200)
    (wf1 : WfP (flushT D L).2.1) (hd1 : (flushT D L).2.1.down = false) (hc1 : (flushT D L).2.1.count ≤ 1000000) (ok : IxOk D S) (n : Nat) (hn : S.m.next = (n : Nat)) (hn9 : n ≤ 999999) (hr : r < 18446744073709551616) (hl : S.mem.length ≤ 1000)
    (pe : Nat) (hpe : addLE S.m.lv n = (pe : Nat)) (hop : ∀ t, FltOf S.mem r t → (writeP (flushT D L).2.1 n S.mem t).1 = 0 → (tgL (rdW (writeP (flushT D L).2.1 n S.mem t).2 (ptT n)).1).length ≤ 10000) :
    Calls Tryz.prog 9 #[ptr gx, ptr gl] w fun e w' => ∃ t, (S.mem = [] ∨ (flushT D L).1 ≠ 0 ∨ FltOf S.mem r t) ∧ e = .returned (err (flushI (flushT D L).1 (flushT D L).2.1 S t n pe (flushT D L).2.2.endp).1) ∧
      IxAt At w0 gd gx r (flushIX (flushT D L).1 (flushT D L).2.1 S t n pe (flushT D L).2.2.endp) (flushI (flushT D L).1 (flushT D L).2.1 S t n pe (flushT D L).2.2.endp).2 (gl :: E) w' ∧ Blok w' gl 78 (logCells (ptr gl) gd (flushT D L).2.2) ∧ Kept E w w' := by
  have hb := (Below.refl w.heap.size w).alloc (Nat.le_refl _) (.cells #[ptr gx] 32)
  have BX := Blok.new w 32 #[ptr gx]
  have HLT := Lib.hid h.lt
  have h1 := h.turn api (E' := gl :: (w.heap.size :: E)) (B := []) (Touch.of_below hb) (fun b hb => by cases hb) (fun b hm => by
    rcases List.mem_cons.1 hm with e | hm
    · rw [e]; exact Or.inl List.mem_cons_self
    · rcases List.mem_cons.1 hm with e | hm
      · rw [e]; exact Or.inr ⟨Nat.le_refl _, BX.lt⟩
      · exact Or.inl (List.mem_cons_of_mem _ hm))
  have HK1 := Lib.hid (Kept.of_below hb (fun b hm => HLT.out b (List.mem_cons_of_mem _ hm)))
  have LG1 := Blok.below hlg hb
  obtain ⟨gb, hgb⟩ : ∃ gb, w.heap.size = gb := ⟨_, rfl⟩
  rw [hgb] at h1 BX
  obtain ⟨w1, hw1⟩ : ∃ w1, w.alloc (.cells #[ptr gx] 32) = w1 := ⟨_, rfl⟩
  rw [hw1] at h1 BX HK1 LG1
  have hgl2 : gl ∉ gb :: E := fun hm => by
    rcases List.mem_cons.1 hm with e | hm
    · have := HLT.out gl List.mem_cons_self
      omega
    · exact hgl hm
  have HFL := h1.flush api nap LG1 hgl2 hlow wf hch
  have HL1 : Hid (∀ (S' : IxS) (D' : DiskS) (E' : List Nat) W, IxAt At w0 gd gx r S' D' E' W → W.cell? ⟨gx, 0, none⟩ = some (ptr gx)) := Lib.hid fun S' D' E' W hW => by
    obtain ⟨_, _, _, _, hM', _⟩ := hW
    obtain ⟨_, _, _, _, _, _, hC'⟩ := hM'.cells
    exact hC'.cs.1
  have c0 := HL1.out _ _ _ _ h1
  have hno := Lib.hid (xnone_run c0)
  have b0 := BX.cell 0
  have HBX := Lib.hid BX
  have HOK := Lib.hid ok
  have HLLOW := Lib.hid (And.intro hgl2 hlow)
  generalize flushT D L = ft at *
  obtain ⟨f, D1, L1⟩ := ft
  simp only at HFL wf1 hd1 hc1 hop ⊢
  have HFL2 := Lib.hid HFL
  clear h hlg hgl hlow wf hch LG1 h1 BX ok hgl2 HFL hb c0
  go_enter Tryz.func9, Tryz.ntmps9
  go_wp2_with fail
  refine hno.out.mono ?_
  rintro e w' ⟨rfl, rfl⟩
  go_wp2_with fail
  refine HFL2.out.mono ?_
  rintro e w2 ⟨rfl, i2, l2, k2⟩
  have HK2 := Lib.hid (HK1.out.trans (k2.less (fun b hb => List.mem_cons_of_mem _ hb)))
  have HI2 := Lib.hid i2
  have HL2 := Lib.hid l2
  have B2 := k2.blok HBX.out List.mem_cons_self
  have b0 := B2.cell 0
  have HB2 := Lib.hid B2
  clear i2 l2 k2 B2
  by_cases hf : f = 0
  case neg =>
    have t1 : ((f : Int) != 0) = true := by simp; omega
    have HF := Lib.hid (show ∀ t, flushI f D1 S t n pe L1.endp = (f, D1) ∧ flushIX f D1 S t n pe L1.endp = S from fun t => ⟨by unfold flushI; rw [if_pos hf], by unfold flushIX; rw [if_pos hf]⟩)
    have HF0 := Lib.hid hf
    clear hf wf1 hd1 hc1 hn hn9 hr hl hpe hop
    go_wp2
    go_ret
    refine ⟨ByteArray.empty, Or.inr (Or.inl HF0.out), ?_⟩
    rw [(HF.out _).1, (HF.out _).2]
    exact ⟨rfl, HI2.out.less (fun b hb => by
      rcases List.mem_cons.1 hb with e | hb
      · rw [e]; exact List.mem_cons_self
      · exact List.mem_cons_of_mem _ (List.mem_cons_of_mem _ hb)), HL2.out, HK2.out⟩
  case pos =>
    subst hf
    obtain ⟨Fm, Gr, Gk, -, hM, -⟩ := HI2.out
    obtain ⟨gm, c8, hT⟩ := hM.tab
    have HLEN := Lib.hid (tlen_run hT)
    clear hM hT
    by_cases hm0 : S.mem = []
    · have HF := Lib.hid (show ∀ t, flushI 0 D1 S t n pe L1.endp = (0, D1) ∧ flushIX 0 D1 S t n pe L1.endp = S from fun t => ⟨by unfold flushI; rw [if_neg (by decide), if_pos hm0], by unfold flushIX; rw [if_neg (by decide), if_pos hm0]⟩)
      have HM0 := Lib.hid hm0
      rw [hm0] at HLEN
      have HLEN2 := Lib.hid (show Calls Tryz.prog 41 #[mtp gm] w2 fun e w' => e = .returned (.int .i64 0) ∧ w2 = w' from HLEN.out)
      clear hm0 wf1 hd1 hc1 hn hn9 hr hl hpe hop HLEN
      go_wp2_with fail
      refine HLEN2.out.mono ?_
      rintro e w' ⟨rfl, rfl⟩
      go_wp2
      go_ret
      refine ⟨ByteArray.empty, Or.inl HM0.out, ?_⟩
      rw [(HF.out _).1, (HF.out _).2]
      exact ⟨rfl, HI2.out.less (fun b hb => by
        rcases List.mem_cons.1 hb with e | hb
        · rw [e]; exact List.mem_cons_self
        · exact List.mem_cons_of_mem _ (List.mem_cons_of_mem _ hb)), HL2.out, HK2.out⟩
    · have hlen0 : ((S.mem.length : Int) == 0) = false := by
        have := List.length_pos_iff.2 hm0
        simp; omega
      have hmem : ∀ x ∈ S.mem, EntOk x := HOK.out.ok
      have htb : tbOk S.mem = true := tbOk_of HOK.out.rise HOK.out.mayE
      have HLIM := Lib.hid (And.intro hl (And.intro hmem htb))
      have HM0 := Lib.hid hm0
      have HTD : Hid (∀ W, Below w2.heap.size w2 W → IxAt At w0 gd gx r S D1 (gl :: (gb :: E)) W ∧ Blok W gl 78 (logCells (ptr gl) gd L1) ∧ Blok W gb 32 #[ptr gx] ∧ W.cell? ⟨gx, 8, none⟩ = some (mtp gm) ∧ Kept E w W) := Lib.hid fun W hW =>
        ⟨HI2.out.below api hW, Blok.below HL2.out hW, Blok.below HB2.out hW, (hW.cell (p := ⟨gx, 8, none⟩) (World.block_lt_of_cell? w2 _ c8)).trans c8, HK2.out.trans (Kept.of_below hW (fun b hb => HI2.out.lt b (List.mem_cons_of_mem _ (List.mem_cons_of_mem _ hb))))⟩
      have HDMP : Hid (Calls Tryz.prog 43 #[mtp gm] w2.drew (EntsOut w2.drew S.mem)) := Lib.hid (by
        obtain ⟨Fm, Gr, Gk, -, hM, -⟩ := (HI2.out).drew api
        obtain ⟨gm', c8', hT'⟩ := hM.tab
        have e : gm' = gm := by
          have h1 : w2.cell? ⟨gx, 8, none⟩ = some (mtp gm') := c8'
          rw [c8] at h1
          injection h1 with h1
          injection h1 with h1
          injection h1 with h1
          injection h1 with h1
          exact h1.symm
        rw [e] at hT'
        exact tdump_run hT'.has (by omega))
      obtain ⟨nm, hnm⟩ : ∃ nm, nm = S.mem.length := ⟨_, rfl⟩
      have HNM := Lib.hid hnm
      rw [← hnm] at HLEN hlen0
      unfold EntsOut at HDMP
      rw [← hnm] at HDMP
      have hS0 : w2.drew.cell? ⟨gb, 0, none⟩ = some (ptr gx) ∧ w2.drew.cell? ⟨gx, 8, none⟩ = some (mtp gm) := ⟨b0, c8⟩
      have hmf : ∀ (fn : Fn) (first cap : Array Value) (w : World), (Instr.makeFunc fn first cap).run Tryz.prog w = .ok (.func fn first cap) w := fun _ _ _ _ => rfl
      clear hm0 hl hmem htb hnm
      go_wp2_with fail
      refine HLEN.out.mono ?_
      rintro e w' ⟨rfl, rfl⟩
      go_wp2_with fail
      have HEN : Hid (∀ W, Blok W gl 78 (logCells (ptr gl) gd L1) → Calls Tryz.prog 11 #[ptr gl] W fun e w' => e = .returned (.int .i64 (L1.endp : Nat)) ∧ W = w') := Lib.hid fun W hW => tend_run (hW.cell 0) (hW.cell 4)
      have hsm := addL_small S.m.lv n
      have HLAY : Hid (∀ (A3 : Option Addr) (c3 : Nat) (W : World), Below w2.drew.heap.size w2.drew W → EntRow W w2.drew.heap.size (.slice A3 nm c3) S.mem → Calls Tryz.prog 42 #[ptr gx, .slice A3 nm c3, .int .i64 (L1.endp : Nat), .func (.func 44) #[] #[ptr gb]] W fun e w' => ∃ t, FltOf S.mem r t ∧
          IxEnd At w0 gd gx r (err (layI D1 n S.mem t pe (nextM S (addL S.m.lv n) L1.endp)).1) (layIX S D1 n S.mem t pe (addL S.m.lv n) L1.endp) (layI D1 n S.mem t pe (nextM S (addL S.m.lv n) L1.endp)).2 (ownL (.slice A3 nm c3) ++ (gl :: (gb :: E))) W e w' ∧ Same8 gx W w') := Lib.hid fun A3 c3 W hW hrow => by
        obtain ⟨q1, q2, q3, q4, q5⟩ := HTD.out W ((Below.refl _ w2).drew.trans hW)
        have hro := row_own hrow
        have i3 : IxAt At w0 gd gx r S D1 (ownL (.slice A3 nm c3) ++ (gl :: (gb :: E))) W := (HI2.out.drew api).more api hW hro
        exact xlay_run api nap iap i3 wf1 hd1 hc1 n hn hn9 HOK.out.seed hr _ S.mem hrow.in_ (fun b hb => List.mem_append_left _ hb) HLIM.out.1 HLIM.out.2.1 HLIM.out.2.2 _ _ #[ptr gb] (enters_of Tryz.func44 (by kernel_rfl) rfl) (addL S.m.lv n) pe
          (fun W' D' hi hk => fplace_run hi HOK.out.may (hk.blok q3 (List.mem_append_right _ (List.mem_cons_of_mem _ List.mem_cons_self))) n pe hpe) (by omega) (by omega) hop (by have := HOK.out.many_le; omega)
      have HF : Hid (∀ t, flushI 0 D1 S t n pe L1.endp = layI D1 n S.mem t pe (nextM S (addL S.m.lv n) L1.endp) ∧ flushIX 0 D1 S t n pe L1.endp = (if (layI D1 n S.mem t pe (nextM S (addL S.m.lv n) L1.endp)).1 = 0 then { layIX S D1 n S.mem t pe (addL S.m.lv n) L1.endp with mem := [] } else layIX S D1 n S.mem t pe (addL S.m.lv n) L1.endp)) := Lib.hid fun t => ⟨by unfold flushI; rw [if_neg (by decide), if_neg HM0.out], by unfold flushIX; rw [if_neg (by decide), if_neg HM0.out]⟩
      have HSK : Hid (∀ W, Below w2.drew.heap.size w2.drew W → W.cell? ⟨gb, 0, none⟩ = some (ptr gx) ∧ W.cell? ⟨gx, 8, none⟩ = some (mtp gm)) := Lib.hid fun W hW => by
        obtain ⟨q1, q2, q3, q4, q5⟩ := HTD.out W ((Below.refl _ w2).drew.trans hW)
        exact ⟨q3.cell 0, q4⟩
      clear hlen0 wf1 hd1 hc1 hn hn9 hr hpe hop b0 c8 hsm
      go_region_held3 (fun W => W.cell? ⟨gb, 0, none⟩ = some (ptr gx) ∧ W.cell? ⟨gx, 8, none⟩ = some (mtp gm))
        (first | (with_reducible assumption) | fail)
        (first
        | (go_at_call 43; ((with_reducible refine HDMP.out.mono ?_); rintro e w3 ⟨A3, c3, rfl, r3, b3⟩; have hS3 := HSK.out w3 b3; have HEN3 := Lib.hid (HEN.out w3 (HTD.out w3 ((Below.refl _ w2).drew.trans b3)).2.1); have HLAY3 := Lib.hid (HLAY.out A3 c3 w3 b3 r3)))
        | (go_at_call 11; ((with_reducible refine HEN3.out.mono ?_); rintro e w4 ⟨rfl, rfl⟩))
        | (go_at_call 42; ((with_reducible refine HLAY3.out.mono ?_); rintro e w5 ⟨t, hft, hi5, hs5⟩; have hS5 : w5.cell? ⟨gb, 0, none⟩ = some (ptr gx) ∧ w5.cell? ⟨gx, 8, none⟩ = some (mtp gm) := ⟨(hi5.2.2.blok (HTD.out w3 ((Below.refl _ w2).drew.trans b3)).2.2.1 (List.mem_append_right _ (List.mem_cons_of_mem _ List.mem_cons_self))).cell 0, Eq.trans hs5 hS3.2⟩; obtain ⟨rfl, hi6, hk6⟩ := hi5))
        | fail)
      all_goals
        have HLG5 := Lib.hid (hk6.blok (HTD.out w3 ((Below.refl _ w2).drew.trans b3)).2.1 (List.mem_append_right _ List.mem_cons_self))
        have HK5 := Lib.hid ((HTD.out w3 ((Below.refl _ w2).drew.trans b3)).2.2.2.2.trans (hk6.less (fun b hb => List.mem_append_right _ (List.mem_cons_of_mem _ (List.mem_cons_of_mem _ hb)))))
        have hi7 := hi6.less (E' := gl :: E) (fun b hb => by
          rcases List.mem_cons.1 hb with e | hb
          · rw [e]; exact List.mem_append_right _ List.mem_cons_self
          · exact List.mem_append_right _ (List.mem_cons_of_mem _ (List.mem_cons_of_mem _ hb)))
        obtain ⟨gm', c8', hclr⟩ := xclear_run api hi7
        have egm : gm' = gm := by
          have h1 := hS5.2.symm.trans c8'
          injection h1 with h1
          injection h1 with h1
          injection h1 with h1
          injection h1 with h1
          exact h1.symm
        rw [egm] at hclr
        have HCL := Lib.hid hclr
        have HI7 := Lib.hid hi7
        have HFT := Lib.hid (And.intro hft (HF.out t))
        obtain ⟨b0, c8⟩ := hS5
        clear hi6 hk6 hi7 hclr hft c8' egm hs5 hS3 r3 b3 HLAY3 HLAY HF HEN3 HTD HSK HDMP HEN HI2 HL2 HB2
        generalize layIX S D1 n S.mem t pe (addL S.m.lv n) L1.endp = S' at *
        generalize layI D1 n S.mem t pe (nextM S (addL S.m.lv n) L1.endp) = lp at *
        obtain ⟨lp1, D5⟩ := lp
        by_cases hz : lp1 = 0
        · subst hz
          go_wp2_with fail
          refine HCL.out.mono ?_
          rintro e w6 ⟨rfl, i6, k6⟩
          have H6 := Lib.hid (And.intro i6 (And.intro (k6.blok HLG5.out List.mem_cons_self) (HK5.out.trans (k6.less (fun b hb => List.mem_cons_of_mem _ hb)))))
          clear i6 k6
          go_wp2
          go_ret
          refine ⟨t, (by first | exact Or.inr HFT.out.1 | exact Or.inr (Or.inr HFT.out.1)), ?_⟩
          rw [HFT.out.2.1, HFT.out.2.2, if_pos (by trivial)]
          exact ⟨rfl, H6.out.1, H6.out.2.1, H6.out.2.2⟩
        · have t1 : ((lp1 : Int) == 0) = false := by simp; omega
          have HZ := Lib.hid hz
          clear hz
          go_wp2
          go_ret
          refine ⟨t, (by first | exact Or.inr HFT.out.1 | exact Or.inr (Or.inr HFT.out.1)), ?_⟩
          rw [HFT.out.2.1, HFT.out.2.2, if_neg HZ.out]
          exact ⟨rfl, HI7.out, HLG5.out, HK5.out⟩
end
end Go.Proofs.YtcpfkaehefcakaaGreat
namespace Go.Proofs.YtcpfkaehefcakaaGreat
open Go.RowKit Go.Shelf
set_option linter.unusedVariables false
set_option maxRecDepth 100000
theorem xmerge_none {w : World} {p : Value} (h : IxNone w p) (level : Int) : Calls Tryz.prog 12 #[p, .int .i64 level] w fun e w' => e = .returned (.int .i64 1) ∧ Below w.heap.size w w' := by
  have hb := ((Below.refl w.heap.size w).alloc (Nat.le_refl _) (.cells #[p] 32)).alloc (B := w.heap.size) (by simp) (.cells #[.int .i64 level] 3)
  have hn := Lib.hid (xnone_any (h.below hb))
  have HB := Lib.hid hb
  rcases h with rfl | ⟨g, rfl, h2⟩
  all_goals
    clear hb
    go_enter Tryz.func12, Tryz.ntmps12
    go_wp2_with fail
    refine hn.out.mono ?_
    rintro e w' ⟨rfl, rfl⟩
    go_wp2
    go_ret
    exact ⟨rfl, HB.out⟩
def dropsP : DiskS → List Int → Nat × DiskS
  | D, [] => (0, D)
  | D, n :: ns => if (dropP D n).1 ≠ 0 then dropP D n else dropsP (dropP D n).2 ns
theorem dropsP_cons (D : DiskS) (n : Int) (ns : List Int) : dropsP D (n :: ns) = if (dropP D n).1 ≠ 0 then dropP D n else dropsP (dropP D n).2 ns := rfl
def mergeI (D : DiskS) (S : IxS) (t : ByteArray) (n : Nat) (level : Int) (pp pe k : Nat) : Nat × DiskS :=
  if pp ≠ 0 then (pp, D)
  else if (layI { D with count := D.count + k } n (allX S (pickL S.m.lv level)) t pe (nextM S (replL S.m.lv level n) S.m.check)).1 ≠ 0 then layI { D with count := D.count + k } n (allX S (pickL S.m.lv level)) t pe (nextM S (replL S.m.lv level n) S.m.check)
  else dropsP (layI { D with count := D.count + k } n (allX S (pickL S.m.lv level)) t pe (nextM S (replL S.m.lv level n) S.m.check)).2 (pickL S.m.lv level)
noncomputable def mergeIX (D : DiskS) (S : IxS) (t : ByteArray) (n : Nat) (level : Int) (pp pe k : Nat) : IxS :=
  if pp ≠ 0 then S else layIX S { D with count := D.count + k } n (allX S (pickL S.m.lv level)) t pe (replL S.m.lv level n) S.m.check
theorem takeX_check (S : IxS) (D : DiskS) (n pe : Nat) (R : LvL) : (takeX S D n pe R S.m.check).m.check = S.m.check := by
  unfold takeX
  split
  · rfl
  · rfl
theorem layIX_check (S : IxS) (D : DiskS) (n : Nat) (l : List EntS) (t : ByteArray) (pe : Nat) (R : LvL) : (layIX S D n l t pe R S.m.check).m.check = S.m.check := by
  unfold layIX
  split
  · rfl
  · exact takeX_check _ _ _ _ _
theorem wp_layI {D : DiskS} (h : WfP D) (n : Nat) (l : List EntS) (t : ByteArray) (pe : Nat) (m : ManS) : WfP (layI D n l t pe m).2 := by
  unfold layI
  split
  · exact wp_write h _ _ _
  · split
    · exact wp_drop (wp_take (wp_write h _ _ _) _ _ _) _
    · exact wp_take (wp_write h _ _ _) _ _ _
theorem all_len {D : DiskS} {S : IxS} (ok : IxOk D S) (ns : List Int) : (allX S ns).length ≤ totX S := by
  unfold allX someT totX
  have h1 := merge_length ((S.T.filter fun t => decide ((t.n : Int) ∈ ns)).map TbS.l)
  have h2 := tot_some (fun t => decide ((t.n : Int) ∈ ns)) S.T
  omega
section
variable {At : Lies} (api : DiskApi At) (nap : NamesApi) (iap : ImApi At) {w0 w w' : World} {gd gx r : Nat} {S : IxS} {D : DiskS} {E : List Nat}
theorem IxAt.c13 (h : IxAt At w0 gd gx r S D E w) : w.cell? ⟨gx, 0, none⟩ = some (ptr gx) ∧ w.cell? ⟨gx, 1, none⟩ = some (ptr gd) ∧ w.cell? ⟨gx, 3, none⟩ = some (.int .i64 S.m.check) := by
  obtain ⟨_, _, _, _, hM', _⟩ := h
  obtain ⟨_, _, _, _, _, _, hC'⟩ := hM'.cells
  exact ⟨hC'.cs.1, hC'.cs.2.1, hC'.cs.2.2.2.1⟩
include api nap iap
set_option maxHeartbeats 2000000 in
theorem xmerge_run (h : IxAt At w0 gd gx r S D E w) (wf : WfP D) (hd : D.down = false) (hc : D.count ≤ 900000) (ok : IxOk D S) (n : Nat) (hn : S.m.next = (n : Nat)) (hn9 : n ≤ 999999) (hr : r < 18446744073709551616) (ht : totX S ≤ 40000) (level : Int) (hal : (allX S (pickL S.m.lv level)).length ≤ 1000)
    (pp : Nat) (hpp : pickE S.m.lv level = (pp : Nat)) (pe : Nat) (hpe : replE S.m.lv level n = (pe : Nat))
    (hop : ∀ k t, k ≤ 40 → FltOf (allX S (pickL S.m.lv level)) r t → (writeP { D with count := D.count + k } n (allX S (pickL S.m.lv level)) t).1 = 0 → (tgL (rdW (writeP { D with count := D.count + k } n (allX S (pickL S.m.lv level)) t).2 (ptT n)).1).length ≤ 10000) :
    Calls Tryz.prog 12 #[ptr gx, .int .i64 level] w fun e w' => ∃ t k, k ≤ S.T.length ∧ (pp ≠ 0 ∨ FltOf (allX S (pickL S.m.lv level)) r t) ∧ IxEnd At w0 gd gx r (err (mergeI D S t n level pp pe k).1) (mergeIX D S t n level pp pe k) (mergeI D S t n level pp pe k).2 E w e w' := by
  have hb := ((Below.refl w.heap.size w).alloc (Nat.le_refl _) (.cells #[ptr gx] 32)).alloc (B := w.heap.size) (by simp) (.cells #[.int .i64 level] 3)
  have BX : Blok ((w.alloc (.cells #[ptr gx] 32)).alloc (.cells #[.int .i64 level] 3)) w.heap.size 32 #[ptr gx] := (Blok.new w 32 #[ptr gx]).alloc _
  have BK : Blok ((w.alloc (.cells #[ptr gx] 32)).alloc (.cells #[.int .i64 level] 3)) (w.heap.size + 1) 3 #[.int .i64 level] := by
    have := Blok.new (w.alloc (.cells #[ptr gx] 32)) 3 #[.int .i64 level]
    rw [World.size_alloc] at this
    exact this
  have HLT := Lib.hid h.lt
  have h1 := h.more api hb (B := [w.heap.size, w.heap.size + 1]) (fun b hm => by
    rcases List.mem_cons.1 hm with e | hm
    · rw [e]; exact ⟨Nat.le_refl _, BX.lt⟩
    · rw [List.mem_singleton.1 hm]; exact ⟨Nat.le_succ _, BK.lt⟩)
  have HK1 := Lib.hid (Kept.of_below hb HLT.out)
  obtain ⟨gv, hgv⟩ : ∃ gv, w.heap.size + 1 = gv := ⟨_, rfl⟩
  rw [hgv] at h1 BK
  obtain ⟨gb, hgb⟩ : ∃ gb, w.heap.size = gb := ⟨_, rfl⟩
  rw [hgb] at h1 BX
  obtain ⟨w1, hw1⟩ : ∃ w1, (w.alloc (.cells #[ptr gx] 32)).alloc (.cells #[.int .i64 level] 3) = w1 := ⟨_, rfl⟩
  rw [hw1] at h1 BX BK HK1
  have hgb1 : gb + 1 = gv := by omega
  have c0 := h1.c13.1
  have hno := Lib.hid (xnone_run c0)
  have b0 := BX.cell 0
  have bk := BK.cell 0
  obtain ⟨A, cp, c5, hv⟩ := h1.lvs
  have HPK := lpick_any _ S.m.lv level w1.drew (hv.below (Below.refl _ _).drew (Nat.le_refl _)) (by have := ok.may.2.2.2.2.1.2.1; omega) (by have := ok.may.2.2.2.2.1.1; omega)
  rw [show PickEnd w1.drew S.m.lv level = fun e w' => ∃ A c, e = .returned (.tuple #[.slice A (pickL S.m.lv level).length c, .int .i64 (pickE S.m.lv level)]) ∧ IRow w' w1.drew.heap.size (.slice A (pickL S.m.lv level).length c) (pickL S.m.lv level) ∧ Below w1.drew.heap.size w1.drew w' from rfl, hpp] at HPK
  have hS0 : w1.drew.cell? ⟨gb, 0, none⟩ = some (ptr gx) ∧ w1.drew.cell? ⟨gv, 0, none⟩ = some (.int .i64 level) ∧ w1.drew.cell? ⟨gx, 5, none⟩ = some (.slice A S.m.lv.length cp) := ⟨b0, bk, c5⟩
  have HSK : Hid (∀ w', Below w1.drew.heap.size w1.drew w' → w'.cell? ⟨gb, 0, none⟩ = some (ptr gx) ∧ w'.cell? ⟨gv, 0, none⟩ = some (.int .i64 level) ∧ w'.cell? ⟨gx, 5, none⟩ = some (.slice A S.m.lv.length cp)) := Lib.hid fun w' hw =>
    ⟨(hw.cell (p := ⟨gb, 0, none⟩) (World.block_lt_of_cell? w1 _ b0)).trans b0, (hw.cell (p := ⟨gv, 0, none⟩) (World.block_lt_of_cell? w1 _ bk)).trans bk, (hw.cell (p := ⟨gx, 5, none⟩) (World.block_lt_of_cell? w1 _ c5)).trans c5⟩
  have H1 := Lib.hid (And.intro h1 (And.intro BX BK))
  have HOK := Lib.hid ok
  obtain ⟨M, hM⟩ : ∃ M, M = pickL S.m.lv level := ⟨_, rfl⟩
  rw [← hM] at HPK hop hal
  obtain ⟨nm, hnm⟩ : ∃ nm, nm = M.length := ⟨_, rfl⟩
  rw [← hnm] at HPK
  have HPK2 := Lib.hid HPK
  have HMM := Lib.hid (And.intro hM hnm)
  generalize S.m.lv.length = lvn at *
  clear h hb BX BK h1 hv HPK c0 ok hgv hM hnm
  go_enter Tryz.func12, Tryz.ntmps12
  go_wp2_with fail
  refine hno.out.mono ?_
  rintro e w' ⟨rfl, rfl⟩
  go_wp2_with fail
  go_region_held3 (fun w' => w'.cell? ⟨gb, 0, none⟩ = some (ptr gx) ∧ w'.cell? ⟨gv, 0, none⟩ = some (.int .i64 level) ∧ w'.cell? ⟨gx, 5, none⟩ = some (.slice A lvn cp))
    (first | (with_reducible assumption) | fail)
    (first
    | (go_at_call 49; ((with_reducible refine HPK2.out.mono ?_); rintro e w2 ⟨A2, c2, rfl, r2, b2⟩; have hS2 := HSK.out w2 b2))
    | fail)
  have hb12 : Below w1.heap.size w1 w2 := (Below.refl _ w1).drew.trans b2
  have i2 := H1.out.1.more api hb12 (B := ownL (.slice A2 nm c2)) (fun b hb => r2.lt b (ownL_mem.1 hb))
  have HK2 := Lib.hid (HK1.out.trans (Kept.of_below hb12 (fun b hb => H1.out.1.lt b (List.mem_append_right _ hb))))
  have HI2 := Lib.hid i2
  have HBX2 := Lib.hid (And.intro (Blok.below H1.out.2.1 hb12) (Blok.below H1.out.2.2 hb12))
  have HIN := Lib.hid (IRow.in_ r2)
  obtain ⟨b0, bk, c5⟩ := hS2
  clear r2 b2 hb12 i2 hS0 HSK HPK2
  by_cases hp0 : pp = 0
  case neg =>
    have t1 : ((pp : Int) != 0) = true := by simp; omega
    have HF := Lib.hid (show ∀ t k, mergeI D S t n level pp pe k = (pp, D) ∧ mergeIX D S t n level pp pe k = S from fun t k => ⟨by unfold mergeI; rw [if_pos hp0], by unfold mergeIX; rw [if_pos hp0]⟩)
    have HP0 := Lib.hid hp0
    clear hp0 hd hc hn hn9 hr ht hpp hpe hop wf c5
    go_wp2
    go_ret
    refine ⟨ByteArray.empty, 0, Nat.zero_le _, Or.inl HP0.out, ?_⟩
    rw [(HF.out _ _).1, (HF.out _ _).2]
    exact ⟨rfl, HI2.out.less (fun b hb => List.mem_append_right _ (List.mem_append_right _ hb)), HK2.out⟩
  case pos =>
    subst hp0
    have hMl : M.length ≤ 1000000 := by
      rw [HMM.out.1]
      have h1 : (pickL S.m.lv level).length ≤ S.m.lv.flatten.length := nodup_len (pick_nodup HOK.out.may.2.2.2.2.1.2.2.2) pick_sub
      have := HOK.out.may.2.2.2.2.1.2.1
      omega
    have HAL := xall_run api nap HI2.out HOK.out wf (by omega) hd (by omega) _ M HIN.out (fun b hb => List.mem_append_left _ hb) hMl
    unfold XRangeEnd at HAL
    obtain ⟨na, hna⟩ : ∃ na, na = (allX S M).length := ⟨_, rfl⟩
    have HNA := Lib.hid hna
    rw [← hna] at HAL
    have HAL2 := Lib.hid HAL
    clear HAL hna hMl c5
    go_wp2_with fail
    refine HAL2.out.mono ?_
    rintro e w3 ⟨A3, c3, k, hk, rfl, r3, i3, k3⟩
    have BX3 := k3.blok HBX2.out.1 (List.mem_append_right _ (List.mem_append_left _ List.mem_cons_self))
    have BK3 := k3.blok HBX2.out.2 (List.mem_append_right _ (List.mem_append_left _ (List.mem_cons_of_mem _ List.mem_cons_self)))
    have hsm := replL_small S.m.lv level n
    have hlen := all_len HOK.out M
    have HLAY := xlay_run api nap iap (i3.drew api) ⟨wf.synced, wf.used, wf.cap, wf.many⟩ hd (by show D.count + k ≤ _; have := HOK.out.many_le; omega) n hn hn9 HOK.out.seed hr _ (allX S M) (r3.in_.below (Below.refl _ w3).drew (Nat.le_refl _)) (fun b hb => List.mem_append_left _ hb) (by omega) (fun x hx => (allX_ok HOK.out M x hx).1) (tbOk_of (allX_rise HOK.out M) (fun x hx => (allX_ok HOK.out M x hx).2)) S.m.check _ #[ptr gb, ptr gv] (enters_of Tryz.func51 (by kernel_rfl) rfl) (replL S.m.lv level n) pe
      (fun W' D' hi hkW => mplace_run hi HOK.out.may (hkW.blok BX3.drew (List.mem_append_right _ (List.mem_append_right _ (List.mem_append_left _ List.mem_cons_self)))) level (hkW.blok BK3.drew (List.mem_append_right _ (List.mem_append_right _ (List.mem_append_left _ (List.mem_cons_of_mem _ List.mem_cons_self))))) n pe hpe) (by omega) (by omega) (hop k · (by have := HOK.out.many_le; omega)) (by have := HOK.out.many_le; omega)
    have HLAY2 := Lib.hid HLAY
    have hS0 : w3.drew.cell? ⟨gb, 0, none⟩ = some (ptr gx) ∧ w3.drew.cell? ⟨gx, 3, none⟩ = some (.int .i64 S.m.check) := ⟨BX3.cell 0, i3.c13.2.2⟩
    have H3 := Lib.hid (And.intro hk (And.intro (HK2.out.trans (k3.less (fun b hb => List.mem_append_right _ (List.mem_append_right _ hb)))) (And.intro BX3 (HIN.out))))
    have hmf : ∀ (fn : Fn) (first cap : Array Value) (w : World), (Instr.makeFunc fn first cap).run Tryz.prog w = .ok (.func fn first cap) w := fun _ _ _ _ => rfl
    have HC3 := Lib.hid (fun (D' : DiskS) (t : ByteArray) (E' : List Nat) (W : World) (h : IxAt At w0 gd gx r (layIX S { D with count := D.count + k } n (allX S M) t pe (replL S.m.lv level n) S.m.check) D' E' W) => (show W.cell? ⟨gx, 3, none⟩ = some (.int .i64 S.m.check) from by
      have := h.c13.2.2
      rw [layIX_check] at this
      exact this))
    have HK3 := Lib.hid k3
    have HWF := Lib.hid wf
    have HF : Hid (∀ t, mergeI D S t n level 0 pe k = (if (layI { D with count := D.count + k } n (allX S M) t pe (nextM S (replL S.m.lv level n) S.m.check)).1 ≠ 0 then layI { D with count := D.count + k } n (allX S M) t pe (nextM S (replL S.m.lv level n) S.m.check) else dropsP (layI { D with count := D.count + k } n (allX S M) t pe (nextM S (replL S.m.lv level n) S.m.check)).2 M) ∧ mergeIX D S t n level 0 pe k = layIX S { D with count := D.count + k } n (allX S M) t pe (replL S.m.lv level n) S.m.check) := Lib.hid fun t => by
      rw [HMM.out.1]
      exact ⟨by unfold mergeI; rw [if_neg (by decide)], by unfold mergeIX; rw [if_neg (by decide)]⟩
    clear r3 i3 k3 BX3 BK3 hk hsm hlen HLAY hn hn9 hr ht hpp hpe hop hd hc wf bk
    go_wp2_with fail
    go_region_held3 (fun w' => w'.cell? ⟨gb, 0, none⟩ = some (ptr gx) ∧ w'.cell? ⟨gx, 3, none⟩ = some (.int .i64 S.m.check))
      (first | (with_reducible assumption) | fail)
      (first
      | (go_at_call 42; ((with_reducible refine HLAY2.out.mono ?_); rintro e w5 ⟨t, hft, ⟨rfl, hi5, hk5⟩, hs5⟩; have hS5 : w5.cell? ⟨gb, 0, none⟩ = some (ptr gx) ∧ w5.cell? ⟨gx, 3, none⟩ = some (.int .i64 S.m.check) := ⟨(hk5.blok H3.out.2.2.1.drew (List.mem_append_right _ (List.mem_append_right _ (List.mem_append_left _ List.mem_cons_self)))).cell 0, HC3.out _ _ _ _ hi5⟩))
      | fail)
    have HIM : Hid (∀ W, Kept (ownL (.slice A2 nm c2) ++ ([gb, gv] ++ E)) w2 W → ∀ i x, M[i]? = some x → ∃ b o, A2 = some ⟨b, o, none⟩ ∧ W.cell? ⟨b, o + i, none⟩ = some (.int .i64 x)) := Lib.hid fun W hW i x hx => by
      have h1 := hW.ints HIN.out (fun b hb => List.mem_append_left _ hb)
      obtain ⟨A', o', c', e, -, hc⟩ := h1.form
      obtain ⟨rfl, -, -⟩ := Value.slice.inj e
      obtain ⟨b, e1, e2, e3⟩ := hc i x hx
      exact ⟨b, o', e1, e3⟩
    have HI5 := Lib.hid hi5
    have HK5 := Lib.hid (HK3.out.drew.trans (hk5.less (fun b hb => List.mem_append_right _ hb)))
    have HKE := Lib.hid (H3.out.2.1.drew.trans (hk5.less (fun b hb => List.mem_append_right _ (List.mem_append_right _ (List.mem_append_right _ hb)))))
    have HGB : Hid (∀ W, Kept (ownL (.slice A3 na c3) ++ (ownL (.slice A2 nm c2) ++ ([gb, gv] ++ E))) w5 W → W.cell? ⟨gb, 0, none⟩ = some (ptr gx)) := Lib.hid fun W hW => ((hk5.trans hW).blok H3.out.2.2.1.drew (List.mem_append_right _ (List.mem_append_right _ (List.mem_append_left _ List.mem_cons_self)))).cell 0
    have HFT := Lib.hid (And.intro (show FltOf (allX S (pickL S.m.lv level)) r t from by rw [← HMM.out.1]; exact hft) (HF.out t))
    have HW5 := Lib.hid (wp_layI (D := { D with count := D.count + k }) ⟨HWF.out.synced, HWF.out.used, HWF.out.cap, HWF.out.many⟩ n (allX S M) t pe (nextM S (replL S.m.lv level n) S.m.check))
    have HKK := Lib.hid H3.out.1
    have hMn : nm ≤ 40 := by
      have h1 : (pickL S.m.lv level).length ≤ S.m.lv.flatten.length := nodup_len (pick_nodup HOK.out.may.2.2.2.2.1.2.2.2) pick_sub
      have := HOK.out.may.2.2.2.2.1.2.1
      rw [← HMM.out.1, ← HMM.out.2] at h1
      omega
    have HMW : Hid (∀ i x, M[i]? = some x → (Lit.int .i64 x).wf = true) := Lib.hid fun i x hx => by
      have hx2 : x ∈ S.m.lv.flatten := pick_sub x (by rw [← HMM.out.1]; exact List.mem_of_getElem? hx)
      have h1 := HOK.out.may.2.2.2.2.1.2.2.1 x hx2
      have h2 := HOK.out.may.2.2.2.2.2 x hx2
      have h3 := HOK.out.may.2.1
      exact WalkArith.wf_i64 (by omega)
    obtain ⟨b0, -⟩ := hS5
    clear hi5 hk5 hs5 hS0 hft HF HC3 HLAY2 H3 HK3 hmf HWF
    generalize layIX S { D with count := D.count + k } n (allX S M) t pe (replL S.m.lv level n) S.m.check = S' at *
    generalize layI { D with count := D.count + k } n (allX S M) t pe (nextM S (replL S.m.lv level n) S.m.check) = lp at *
    obtain ⟨lp1, D5⟩ := lp
    by_cases hz : lp1 = 0
    case neg =>
      have t1 : ((lp1 : Int) != 0) = true := by simp; omega
      have HZ := Lib.hid hz
      clear hz
      go_wp2
      go_ret
      refine ⟨t, k, HKK.out, (by first | exact HFT.out.1 | exact Or.inr HFT.out.1), ?_⟩
      rw [HFT.out.2.1, HFT.out.2.2, if_pos HZ.out]
      exact ⟨rfl, HI5.out.less (fun b hb => List.mem_append_right _ (List.mem_append_right _ (List.mem_append_right _ hb))), HKE.out⟩
    case pos =>
      subst hz
      go_wp2
      go_loopg [49] nm (fun g i wr => ∃ (j : Nat) (D' : DiskS), j + g = nm ∧ i = .int .i64 j ∧ dropsP D5 M = dropsP D' (M.drop j) ∧ WfP D' ∧ IxAt At w0 gd gx r S' D' (ownL (.slice A3 na c3) ++ (ownL (.slice A2 nm c2) ++ ([gb, gv] ++ E))) wr ∧ Kept (ownL (.slice A3 na c3) ++ (ownL (.slice A2 nm c2) ++ ([gb, gv] ++ E))) w5 wr)
      case atStart => exact ⟨0, D5, by omega, rfl, by rw [List.drop_zero], HW5.out, HI5.out, Kept.refl _ _⟩
      case round =>
        obtain ⟨j, D', hjg, rfl, he, hw, hi, hkr⟩ := hrel
        have HE := Lib.hid he
        have HW := Lib.hid hw
        have HI := Lib.hid hi
        have HK := Lib.hid hkr
        clear he hw hi hkr
        cases gk with
        | zero =>
          obtain rfl : j = nm := by omega
          have s1 : ¬ (j : Int) < (j : Int) := by omega
          have h1 := HE.out
          rw [HMM.out.2, List.drop_length] at h1
          have HFIN := Lib.hid (show mergeI D S t n level 0 pe k = (0, D') ∧ mergeIX D S t n level 0 pe k = S' from by
            rw [HFT.out.2.1, HFT.out.2.2, if_neg (by simp)]
            exact ⟨h1, rfl⟩)
          clear h1
          go_wp2
          go_ret
          refine ⟨t, k, HKK.out, (by first | exact HFT.out.1 | exact Or.inr HFT.out.1), ?_⟩
          rw [HFIN.out.1, HFIN.out.2]
          exact ⟨rfl, HI.out.less (fun b hb => List.mem_append_right _ (List.mem_append_right _ (List.mem_append_right _ hb))), HKE.out.trans (HK.out.less (fun b hb => List.mem_append_right _ (List.mem_append_right _ (List.mem_append_right _ hb))))⟩
        | succ gi =>
          have hjn : j < nm := by omega
          have s1 : (j : Int) < (nm : Int) := by omega
          have hjm : j < M.length := by rw [← HMM.out.2]; exact hjn
          have hd1 : M.drop j = M[j] :: M.drop (j + 1) := List.drop_eq_getElem_cons hjm
          obtain ⟨b, o, rfl, q1⟩ := HIM.out wr (HK5.out.trans (HK.out.less (fun b hb => List.mem_append_right _ hb))) j M[j] (List.getElem?_eq_getElem hjm)
          have wn := HMW.out j M[j] (List.getElem?_eq_getElem hjm)
          have HDR := Lib.hid (HI.out.quiet8 (f := 53) (args := #[ptr gd, .int .i64 M[j]]) (Q := fun e w' => e = .returned (err (dropP D' M[j]).1)) (fun E' _ hd => (pdrop_run api nap hd HW.out M[j] wn).mono fun e w' h => ⟨h.2.1, h.2.2, h.1⟩))
          have b0 := HGB.out wr HK.out
          have c1 := HI.out.c13.2.1
          have h1 := HE.out
          rw [hd1, dropsP_cons] at h1
          have H1 := Lib.hid h1
          have HW2 := Lib.hid (wp_drop HW.out M[j])
          clear h1 hd1 wn HE
          generalize M[j] = x at *
          generalize dropP D' x = dp at *
          obtain ⟨dp1, D6⟩ := dp
          go_wp2_with fail
          refine HDR.out.mono ?_
          rintro e w6 ⟨i6, k6, s6, rfl⟩
          have H6 := Lib.hid (And.intro i6 (HK.out.trans k6))
          clear i6 k6 s6
          by_cases hz : dp1 = 0
          · subst hz
            have H2 := Lib.hid (show dropsP D5 M = dropsP D6 (M.drop (j + 1)) from by rw [H1.out, if_neg (by simp)])
            go_wp2
            go_roundg gi
            case measure => omega
            case rel => exact ⟨j + 1, D6, by omega, by go_num, H2.out, HW2.out, H6.out.1, H6.out.2⟩
          · have t1 : ((dp1 : Int) != 0) = true := by simp; omega
            have HFIN := Lib.hid (show mergeI D S t n level 0 pe k = (dp1, D6) ∧ mergeIX D S t n level 0 pe k = S' from by
              rw [HFT.out.2.1, HFT.out.2.2, if_neg (by simp)]
              exact ⟨by rw [H1.out, if_pos hz], rfl⟩)
            clear hz
            go_wp2
            go_ret
            refine ⟨t, k, HKK.out, (by first | exact HFT.out.1 | exact Or.inr HFT.out.1), ?_⟩
            rw [HFIN.out.1, HFIN.out.2]
            exact ⟨rfl, H6.out.1.less (fun b hb => List.mem_append_right _ (List.mem_append_right _ (List.mem_append_right _ hb))), HKE.out.trans (H6.out.2.less (fun b hb => List.mem_append_right _ (List.mem_append_right _ (List.mem_append_right _ hb))))⟩
end
end Go.Proofs.YtcpfkaehefcakaaGreat
namespace Go.Proofs.YtcpfkaehefcakaaGreat
set_option maxRecDepth 100000
set_option linter.unusedVariables false
section
theorem pt_np {n : Nat} (h : n ≤ 999999) : npOk (ptT n) = true ∧ npK (ptT n) = 116 ∧ npN (ptT n) = n ∧ npOk (ptB n) = true ∧ npK (ptB n) = 98 ∧ npN (ptB n) = n := by
  obtain ⟨a1, a2, a3⟩ := np_back (c := 116) (by decide) h
  obtain ⟨b1, b2, b3⟩ := np_back (c := 98) (by decide) h
  exact ⟨a1, a2, a3, b1, b2, b3⟩
theorem pt_inj {n m : Nat} (h : n ≤ 999999) (k : m ≤ 999999) : (ptT n = ptT m → n = m) ∧ (ptB n = ptB m → n = m) := by
  obtain ⟨-, -, a3, -, -, b3⟩ := pt_np h
  obtain ⟨-, -, c3, -, -, d3⟩ := pt_np k
  exact ⟨fun e => by rw [e] at a3; omega, fun e => by rw [e] at b3; omega⟩
theorem map_np : npOk mapN = false := by decide +kernel
theorem new_np : npOk newN = false := by decide +kernel
theorem pt_far {n : Nat} (h : n ≤ 999999) : ptT n ≠ mapN ∧ ptT n ≠ newN ∧ ptB n ≠ mapN ∧ ptB n ≠ newN := by
  obtain ⟨a1, -, -, b1, -, -⟩ := pt_np h
  have m := map_np
  have w := new_np
  exact ⟨fun e => by rw [e, m] at a1; exact Bool.noConfusion a1, fun e => by rw [e, w] at a1; exact Bool.noConfusion a1, fun e => by rw [e, m] at b1; exact Bool.noConfusion b1, fun e => by rw [e, w] at b1; exact Bool.noConfusion b1⟩
structure IxDk (D : DiskS) (S : IxS) : Prop where
  up : UpD D
  starts : D.starts = 0
  only : ∀ n ∈ namesS D, n = mapN ∨ ∃ t ∈ S.T, n = ptT t.n ∨ n = ptB t.n
  used : (usedS D.l : Int) ≤ 4000 * S.m.next
theorem pt_names (T : List TbS) : (T.flatMap fun t => [ptT t.n, ptB t.n]).length = 2 * T.length := by
  induction T with
  | nil => rfl
  | cons t T ih =>
    rw [List.flatMap_cons, List.length_append, ih, List.length_cons]
    show 2 + 2 * T.length = 2 * (T.length + 1)
    omega
theorem IxDk.many {D : DiskS} {S : IxS} (h : IxDk D S) (hd : (namesS D).Nodup) : D.l.length ≤ 1 + 2 * S.T.length := by
  have h1 := nodup_len (b := mapN :: S.T.flatMap fun t => [ptT t.n, ptB t.n]) hd (fun n hn => by
    rcases h.only n hn with e | ⟨t, ht, e⟩
    · rw [e]; exact List.mem_cons_self
    · refine List.mem_cons_of_mem _ (List.mem_flatMap.2 ⟨t, ht, ?_⟩)
      rcases e with e | e <;> rw [e] <;> simp)
  have h2 : (namesS D).length = D.l.length := List.length_map _
  rw [List.length_cons, pt_names] at h1
  omega
theorem not_named {D : DiskS} {n : ByteArray} (h : n ∉ namesS D) : fileOf D.l n = none := fileOf_none.2 fun f hf e => h (List.mem_map.2 ⟨f, hf, e⟩)
theorem IxDk.none_ {D : DiskS} {S : IxS} (h : IxDk D S) (ok : IxOk D S) : fileOf D.l newN = none ∧ ∀ n : Nat, n ≤ 999999 → S.m.next ≤ n → fileOf D.l (ptT n) = none ∧ fileOf D.l (ptB n) = none := by
  refine ⟨not_named fun hm => ?_, fun n hn hx => ⟨not_named fun hm => ?_, not_named fun hm => ?_⟩⟩
  · rcases h.only _ hm with e | ⟨t, ht, e⟩
    · exact map_new e.symm
    · have := (ok.num_le ht).1
      have := pt_far (n := t.n) (by omega)
      rcases e with e | e
      · exact this.2.1 e.symm
      · exact this.2.2.2 e.symm
  · rcases h.only _ hm with e | ⟨t, ht, e⟩
    · exact (pt_far hn).1 e
    · have h2 := ok.num_le ht
      rcases e with e | e
      · have := (pt_inj hn (by omega)).1 e; omega
      · exact pt_ne (by omega) hn e.symm
  · rcases h.only _ hm with e | ⟨t, ht, e⟩
    · exact (pt_far hn).2.2.1 e
    · have h2 := ok.num_le ht
      rcases e with e | e
      · exact pt_ne hn (by omega) e
      · have := (pt_inj hn (by omega)).2 e; omega
theorem laid_ok {D E : DiskS} {S : IxS} (ok : IxOk D S) {n : Nat} (hn : S.m.next = (n : Nat)) {R : LvL} {en : Int} (hM : MayM ⟨S.m.next + 1, en, S.m.seed, R⟩) {x : TbS} (hxn : x.n = n) (hxh : HasT E n x.l) (hxk : keepsP x.t x.l = true) {P : Int → Prop}
    (hR : ∀ y : Int, y ∈ R.flatten ↔ y = n ∨ (y ∈ S.m.lv.flatten ∧ P y)) (hf : ∀ t ∈ stayT S.T R, fileOf E.l (ptT t.n) = fileOf D.l (ptT t.n)) {mem : List EntS} (hr : RiseE mem) (hok : ∀ y ∈ mem, EntOk y) (hmy : ∀ y ∈ mem, mayE y = true) : IxOk E (laidX S R en x mem) := by
  have hst : ∀ t : TbS, t ∈ stayT S.T R ↔ t ∈ S.T ∧ (t.n : Int) ∈ R.flatten := fun t => by unfold stayT; rw [List.mem_filter]; simp
  refine ⟨hM, ok.seed, fun y => ?_, ?_, fun t ht => ?_, fun t ht => ?_, hr, hok, hmy⟩
  · show y ∈ R.flatten ↔ ∃ t ∈ stayT S.T R ++ [x], (t.n : Int) = y
    rw [hR]
    constructor
    · rintro (rfl | ⟨q1, q2⟩)
      · exact ⟨x, List.mem_append_right _ (List.mem_singleton.2 rfl), by rw [hxn]⟩
      · obtain ⟨t, ht, rfl⟩ := (ok.nums y).1 q1
        exact ⟨t, List.mem_append_left _ ((hst t).2 ⟨ht, (hR _).2 (Or.inr ⟨q1, q2⟩)⟩), rfl⟩
    · rintro ⟨t, ht, rfl⟩
      rcases List.mem_append.1 ht with q | q
      · exact (hR _).1 ((hst t).1 q).2
      · rw [List.mem_singleton.1 q, hxn]
        exact Or.inl rfl
  · show ((stayT S.T R ++ [x]).map TbS.n).Nodup
    rw [List.map_append]
    refine List.nodup_append.2 ⟨(List.Sublist.map _ List.filter_sublist).nodup ok.uniq, by simp, fun a ha b hb e => ?_⟩
    obtain ⟨t, ht, rfl⟩ := List.mem_map.1 ha
    have := (ok.num_le ((hst t).1 ht).1).2
    have hb' : b = x.n := by simpa using hb
    omega
  · rcases List.mem_append.1 ht with q | q
    · obtain ⟨f, h1, h2, h3⟩ := ok.has t ((hst t).1 q).1
      exact ⟨f, by rw [hf t q]; exact h1, h2, h3⟩
    · rw [List.mem_singleton.1 q, hxn]
      exact hxh
  · rcases List.mem_append.1 ht with q | q
    · exact ok.keep t ((hst t).1 q).1
    · rw [List.mem_singleton.1 q]
      exact hxk
end
end Go.Proofs.YtcpfkaehefcakaaGreat
namespace Go.Proofs.YtcpfkaehefcakaaGreat
open Go.RowKit Go.Shelf
set_option linter.unusedVariables false
set_option maxRecDepth 100000
theorem rdW_same (D : DiskS) (k : Nat) (n : ByteArray) (hd : D.down = false) : (rdW { D with count := k } n).1 = (rdW D n).1 ∧ (rdW { D with count := k } n).2.1 = (rdW D n).2.1 ∧ ∃ j, j ≤ 1 ∧ (rdW { D with count := k } n).2.2 = { D with count := k + j } := by
  cases h : fileOf D.l n with
  | none =>
    rw [rdW_none (D := D) hd h, rdW_none (D := { D with count := k }) hd h]
    exact ⟨rfl, rfl, 0, by omega, rfl⟩
  | some f =>
    rw [rdW_of (D := D) hd h, rdW_of (D := { D with count := k }) hd h]
    exact ⟨rfl, rfl, 1, by omega, rfl⟩
theorem openE_same (D : DiskS) (k : Nat) (n : Int) (hd : D.down = false) : openE { D with count := k } n = openE D n ∧ ∃ j, j ≤ 2 ∧ openD { D with count := k } n = { D with count := k + j } := by
  obtain ⟨h1, h2, j, hj, h3⟩ := rdW_same D k (ptT n) hd
  have hd' : ¬ D.down = true := by rw [hd]; decide
  refine ⟨?_, ?_⟩
  · unfold openE
    rw [h1, h2]
  · unfold openD
    rw [if_neg hd', h2, h1, h3]
    split
    · exact ⟨j, by omega, rfl⟩
    · split
      · exact ⟨j, by omega, rfl⟩
      · obtain ⟨-, -, j2, hj2, h4⟩ := rdW_same D (k + j) (ptB n) hd
        rw [h4]
        exact ⟨j + j2, by omega, by rw [Nat.add_assoc]⟩
theorem open_has {D : DiskS} {n : Int} (hd : D.down = false) (h : openE D n = 0) : HasT D n (tgL (rdW D (ptT n)).1) := by
  unfold openE at h
  rw [if_neg (by rw [hd]; decide)] at h
  cases hf : fileOf D.l (ptT n) with
  | none =>
    rw [rdW_none hd hf] at h
    simp at h
  | some f =>
    rw [rdW_of hd hf] at h ⊢
    simp at h
    exact ⟨f, hf, h, rfl⟩
theorem TabAt.low {w : World} {base base' g : Nat} {F : List Nat} {l : List EntS} (h : TabAt w base g F l) (hb : base' ≤ base) : TabAt w base' g F l := by
  obtain ⟨v, h1, h2, h3, h4, h5, h6, h7⟩ := h
  exact ⟨v, h1, h2.down hb, h3, h4, fun x hx => ⟨Nat.le_trans hb (h5 x hx).1, (h5 x hx).2⟩, h6, h7⟩
structure OpAt (At : Lies) (w0 : World) (gd gx r gm : Nat) (m : ManS) (lv tv : Value) (ps : List Nat) (T : List TbS) (Gk : List Nat) (D : DiskS) (E : List Nat) (w : World) : Prop where
  ds : DS At w0 gd D ([gm] ++ ((gx :: ownL tv) ++ (Gk ++ E))) w
  blok : Blok w gx 67 #[.pointer none, ptr gd, .int .i64 m.next, .int .i64 m.check, .int .u64 (m.seed : Nat), lv, tv, .float .f64 r, mtp gm]
  lv : LvKeep w lv m.lv Gk
  row : PRow w w0.heap.size tv ps
  tabs : TabsAt w gd ps T Gk
  mem : TabAt w w0.heap.size gm [gm] []
  gm1 : gm ∉ gx :: ownL tv ∧ gm ∉ Gk ∧ gm ∉ E
  gr : ∀ b ∈ gx :: ownL tv, b ∉ Gk ∧ b ∉ E
  gk : ∀ b ∈ Gk, b ∉ E
  low : w0.heap.size ≤ gx
section
variable {At : Lies} {w0 w w5 W : World} {gd gx r gm gt : Nat} {m : ManS} {lv tv : Value} {ps H : List Nat} {T : List TbS} {Gk : List Nat} {D D' : DiskS} {E E' : List Nat} {t : TbS}
theorem OpAt.made (api : DiskApi At) (h : OpAt At w0 gd gx r gm m lv tv ps T Gk D E w) : IxAt At w0 gd gx r ⟨m, T, []⟩ D E (w.setCell ⟨gx, 0, none⟩ (ptr gx)) ∧ Kept E w (w.setCell ⟨gx, 0, none⟩ (ptr gx)) := by
  have ht : Touch [gx] w (w.setCell ⟨gx, 0, none⟩ (ptr gx)) := (Touch.refl [gx] w).setCell (p := ⟨gx, 0, none⟩) (Or.inl (List.mem_singleton.2 rfl)) _
  have hlt := h.ds.lt
  have hfar : ∀ b ∈ [gm] ++ (ownL tv ++ (Gk ++ E)), b < w.heap.size ∧ b ∉ [gx] := fun b hb => by
    rcases List.mem_append.1 hb with q | q
    · refine ⟨hlt b (List.mem_append_left _ q), fun hm => h.gm1.1 ?_⟩
      rw [← List.mem_singleton.1 q, List.mem_singleton.1 hm]
      exact List.mem_cons_self
    · rcases List.mem_append.1 q with q | q
      · refine ⟨hlt b (List.mem_append_right _ (List.mem_append_left _ (List.mem_cons_of_mem _ q))), fun hm => ?_⟩
        exact own_ne h.row h.blok (by decide) (by rw [List.mem_singleton.1 hm] at q; exact ownL_mem.1 q)
      · rcases List.mem_append.1 q with q | q
        · exact ⟨hlt b (List.mem_append_right _ (List.mem_append_right _ (List.mem_append_left _ q))), fun hm => (h.gr gx List.mem_cons_self).1 (by rw [← List.mem_singleton.1 hm]; exact q)⟩
        · exact ⟨hlt b (List.mem_append_right _ (List.mem_append_right _ (List.mem_append_right _ q))), fun hm => (h.gr gx List.mem_cons_self).2 (by rw [← List.mem_singleton.1 hm]; exact q)⟩
  have k := Kept.of_touch ht hfar
  refine ⟨⟨[gm], gx :: ownL tv, Gk, h.ds.own2 api ht (fun b hb => by rw [List.mem_singleton.1 hb]; exact ⟨List.mem_append_right _ (List.mem_append_left _ List.mem_cons_self), h.low⟩), ⟨gm, lv, tv, ps, h.blok.put 0 (ptr gx), h.lv.step (k.less (fun b hb => List.mem_append_right _ (List.mem_append_right _ (List.mem_append_left _ hb)))), k.prow h.row (fun b hb => List.mem_append_right _ (List.mem_append_left _ hb)), h.tabs.keep k (fun b hb => List.mem_append_right _ (List.mem_append_right _ (List.mem_append_left _ hb))), h.mem.keep k (fun b hb => List.mem_append_left _ hb), List.mem_cons_self, fun b hb => List.mem_cons_of_mem _ hb, h.low⟩, fun b hb => by rw [List.mem_singleton.1 hb]; exact h.gm1, h.gr, h.gk, fun b hb => ?_⟩, k.less (fun b hb => List.mem_append_right _ (List.mem_append_right _ (List.mem_append_right _ hb)))⟩
  rcases List.mem_append.1 hb with q | q
  · obtain ⟨v, h1, h2, h3, h4, h5, h6, h7⟩ := h.mem
    exact (h5 b q).1
  · rcases List.mem_cons.1 q with e | q
    · rw [e]; exact h.low
    · exact (h.row.lt b (ownL_mem.1 q)).1
theorem OpAt.next (api : DiskApi At) (h : OpAt At w0 gd gx r gm m lv tv ps T Gk D E w) (hd : DS At w0 gd D' (H ++ ([gm] ++ ((gx :: ownL tv) ++ (Gk ++ E)))) w5) (hk : Kept ([gm] ++ ((gx :: ownL tv) ++ (Gk ++ E))) w w5) (hH : ∀ b ∈ H, w.heap.size ≤ b) (hp : PtAt w5 gt gd t.n t.l t.t H) (hl : ps.length ≤ 10000) (ty : TypeId) :
    ∃ A n c A9 c9 w9, tv = .slice A n c ∧ (Builtin.append_ #[64, 64] ty #[tv, .slice (some ⟨w5.heap.size, 0, none⟩) 1 1]).run Tryz.prog (w5.alloc (.cells #[ptr gt] 86)) = .ok (.slice A9 (n + 1) c9) w9 ∧
      w9.cell? ⟨gx, 6, none⟩ = some tv ∧ w9.frozen? ⟨gx, 6, none⟩ = false ∧ OpAt At w0 gd gx r gm m lv (.slice A9 (n + 1) c9) (ps ++ [gt]) (T ++ [t]) (H ++ Gk) D' E (w9.setCell ⟨gx, 6, none⟩ (.slice A9 (n + 1) c9)) ∧ Kept E w (w9.setCell ⟨gx, 6, none⟩ (.slice A9 (n + 1) c9)) := by
  have hlt := h.ds.lt
  have hlt5 := hd.lt
  have hz5 := hk.size
  have X5 := hk.blok h.blok (List.mem_append_right _ (List.mem_append_left _ List.mem_cons_self))
  have r5 := hk.prow h.row (fun b hb => List.mem_append_right _ (List.mem_append_left _ (List.mem_cons_of_mem _ hb)))
  obtain ⟨A, c, hv, -, -, -⟩ := own_form r5
  obtain ⟨A9, c9, w9, e9, r9, t9, o9⟩ := prow_append gt ty r5 rfl hl hd.kept.size
  have hgx : gx ∉ ownL tv := fun hm => own_ne r5 X5 (by decide) (ownL_mem.1 hm)
  have X9 := X5.touch t9 hgx
  have hne9 : (Value.slice A9 (ps.length + 1) c9).ownBlock ≠ some gx := own_ne r9 X9 (by decide)
  have t10 : Touch (gx :: ownL tv) w5 (w9.setCell ⟨gx, 6, none⟩ (.slice A9 (ps.length + 1) c9)) := (t9.more (fun x hx => Or.inl (List.mem_cons_of_mem _ hx))).setCell (p := ⟨gx, 6, none⟩) (Or.inl List.mem_cons_self) _
  have hz9 : (w9.setCell ⟨gx, 6, none⟩ (.slice A9 (ps.length + 1) c9)).heap.size = w9.heap.size := by simp [World.setCell]
  have hnew : ∀ b ∈ gx :: ownL (.slice A9 (ps.length + 1) c9), b ∈ gx :: ownL tv ∨ (w5.heap.size ≤ b ∧ b < (w9.setCell ⟨gx, 6, none⟩ (.slice A9 (ps.length + 1) c9)).heap.size) := fun b hb => by
    rcases List.mem_cons.1 hb with e | q
    · rw [e]; exact Or.inl List.mem_cons_self
    · rcases o9 b q with p | p
      · exact Or.inl (List.mem_cons_of_mem _ p)
      · rw [hz9]; exact Or.inr p
  have hfar : ∀ b ∈ [gm] ++ (H ++ (Gk ++ E)), b < w5.heap.size ∧ b ∉ gx :: ownL tv := fun b hb => by
    rcases List.mem_append.1 hb with q | q
    · exact ⟨hlt5 b (List.mem_append_right _ (List.mem_append_left _ q)), fun hm => h.gm1.1 (by rw [← List.mem_singleton.1 q]; exact hm)⟩
    · rcases List.mem_append.1 q with q | q
      · refine ⟨hlt5 b (List.mem_append_left _ q), fun hm => ?_⟩
        have := hH b q
        have := hlt b (List.mem_append_right _ (List.mem_append_left _ hm))
        omega
      · refine ⟨hlt5 b (List.mem_append_right _ (List.mem_append_right _ (List.mem_append_right _ q))), fun hm => ?_⟩
        rcases List.mem_append.1 q with q | q
        · exact (h.gr b hm).1 q
        · exact (h.gr b hm).2 q
  have kf := Kept.of_touch t10 hfar
  have kGk : Kept Gk w (w9.setCell ⟨gx, 6, none⟩ (.slice A9 (ps.length + 1) c9)) := (hk.less (fun b hb => List.mem_append_right _ (List.mem_append_right _ (List.mem_append_left _ hb)))).trans (kf.less (fun b hb => List.mem_append_right _ (List.mem_append_right _ (List.mem_append_left _ hb))))
  have kgm : Kept [gm] w (w9.setCell ⟨gx, 6, none⟩ (.slice A9 (ps.length + 1) c9)) := (hk.less (fun b hb => List.mem_append_left _ hb)).trans (kf.less (fun b hb => List.mem_append_left _ hb))
  have kE : Kept E w (w9.setCell ⟨gx, 6, none⟩ (.slice A9 (ps.length + 1) c9)) := (hk.less (fun b hb => List.mem_append_right _ (List.mem_append_right _ (List.mem_append_right _ hb)))).trans (kf.less (fun b hb => List.mem_append_right _ (List.mem_append_right _ (List.mem_append_right _ hb))))
  refine ⟨A, ps.length, c, A9, c9, w9, hv, e9, X9.cell 6, X9.frozen 6, ⟨hd.turn api t10 (fun b hb => ⟨List.mem_append_right _ (List.mem_append_right _ (List.mem_append_left _ hb)), ?_⟩) (fun b hb => ?_), X9.put 6 _, (h.lv.step kGk).more (fun b hb => List.mem_append_right _ hb), own_far (p := ⟨gx, 6, none⟩) r9 hne9 _, (h.tabs.keep kGk (fun b hb => hb)).snoc (hp.keep kf (fun b hb => List.mem_append_right _ (List.mem_append_left _ hb))), h.mem.keep kgm (fun b hb => hb), ⟨fun hm => ?_, fun hm => ?_, h.gm1.2.2⟩, fun b hb => ⟨fun hm => ?_, fun hm => ?_⟩, fun b hb hm => ?_, h.low⟩, kE⟩
  · rcases List.mem_cons.1 hb with e | q
    · rw [e]; exact h.low
    · exact (h.row.lt b (ownL_mem.1 q)).1
  · rcases List.mem_append.1 hb with q | q
    · exact Or.inl (List.mem_append_right _ (List.mem_append_left _ q))
    · rcases List.mem_append.1 q with q | q
      · rcases hnew b q with p | p
        · exact Or.inl (List.mem_append_right _ (List.mem_append_right _ (List.mem_append_left _ p)))
        · exact Or.inr p
      · rcases List.mem_append.1 q with q | q
        · rcases List.mem_append.1 q with q | q
          · exact Or.inl (List.mem_append_left _ q)
          · exact Or.inl (List.mem_append_right _ (List.mem_append_right _ (List.mem_append_right _ (List.mem_append_left _ q))))
        · exact Or.inl (List.mem_append_right _ (List.mem_append_right _ (List.mem_append_right _ (List.mem_append_right _ q))))
  · have := hlt gm (List.mem_append_left _ List.mem_cons_self)
    rcases hnew gm hm with p | p
    · exact h.gm1.1 p
    · omega
  · have := hlt gm (List.mem_append_left _ List.mem_cons_self)
    rcases List.mem_append.1 hm with p | p
    · have := hH gm p; omega
    · exact h.gm1.2.1 p
  · rcases hnew b hb with p | p
    · have := hlt b (List.mem_append_right _ (List.mem_append_left _ p))
      rcases List.mem_append.1 hm with q | q
      · have := hH b q; omega
      · exact (h.gr b p).1 q
    · rcases List.mem_append.1 hm with q | q
      · have := hlt5 b (List.mem_append_left _ q); omega
      · have := hlt b (List.mem_append_right _ (List.mem_append_right _ (List.mem_append_left _ q))); omega
  · rcases hnew b hb with p | p
    · exact (h.gr b p).2 hm
    · have := hlt b (List.mem_append_right _ (List.mem_append_right _ (List.mem_append_right _ hm))); omega
  · rcases List.mem_append.1 hb with q | q
    · have := hH b q
      have := hlt b (List.mem_append_right _ (List.mem_append_right _ (List.mem_append_right _ hm))); omega
    · exact h.gk b q hm
end
end Go.Proofs.YtcpfkaehefcakaaGreat
namespace Go.Proofs.YtcpfkaehefcakaaGreat
set_option maxRecDepth 100000
set_option linter.unusedVariables false
section
theorem del_one {D : DiskS} (h : UpD D) (hd : (namesS D).Nodup) (n : ByteArray) : ∃ e E, deleteS D n = (e, E) ∧ goneP e = true ∧ UpD E ∧ StaysD D E ∧ usedS E.l ≤ usedS D.l ∧ (namesS E).Nodup ∧ (∀ k, k ∈ namesS E ↔ k ∈ namesS D ∧ k ≠ n) ∧ ∀ k, k ≠ n → fileOf E.l k = fileOf D.l k := by
  cases hf : fileOf D.l n with
  | none =>
    refine ⟨4, D, deleteS_no h.down hf, rfl, h, StaysD.refl D, Nat.le_refl _, hd, fun k => ⟨fun hk => ⟨hk, fun e => ?_⟩, fun hk => hk.1⟩, fun k _ => rfl⟩
    obtain ⟨f, h1, h2⟩ := List.mem_map.1 hk
    exact fileOf_none.1 hf f h1 (h2.trans e)
  | some f =>
    obtain ⟨E, e1, u1, c1, p1, l1, s1, z1, o1⟩ := deleteS_of h hf
    have st := sd_delete D n
    rw [e1] at st
    have hn : namesS E = (namesS D).filter (fun x => !decide (x = n)) := by
      show E.l.map FileS.name = _
      rw [l1]
      exact drop_names n D.l hd
    refine ⟨0, E, e1, rfl, u1, st, by omega, by rw [hn]; exact List.Pairwise.filter _ hd, fun k => ?_, o1⟩
    rw [hn, List.mem_filter]
    simp
structure Dropped (D E : DiskS) (ns : List Int) : Prop where
  up : UpD E
  stays : StaysD D E
  used : usedS E.l ≤ usedS D.l
  nodup : (namesS E).Nodup
  names : ∀ k, k ∈ namesS E ↔ k ∈ namesS D ∧ ∀ n ∈ ns, k ≠ ptT n ∧ k ≠ ptB n
  other : ∀ k, (∀ n ∈ ns, k ≠ ptT n ∧ k ≠ ptB n) → fileOf E.l k = fileOf D.l k
theorem drop_one {D : DiskS} (h : UpD D) (hd : (namesS D).Nodup) (n : Int) : ∃ E, dropP D n = (0, E) ∧ Dropped D E [n] := by
  obtain ⟨e1, E1, h1, g1, u1, s1, z1, d1, n1, o1⟩ := del_one h hd (ptT n)
  obtain ⟨e2, E2, h2, g2, u2, s2, z2, d2, n2, o2⟩ := del_one u1 d1 (ptB n)
  refine ⟨E2, ?_, u2, s1.trans s2, by omega, d2, fun k => ?_, fun k hk => ?_⟩
  · unfold dropP
    rw [h1]
    simp only
    rw [if_neg (by rw [g1]; decide), h2]
    simp only
    rw [if_neg (by rw [g2]; decide)]
  · rw [n2, n1]
    simp only [List.mem_singleton, forall_eq]
    exact ⟨fun q => ⟨q.1.1, q.1.2, q.2⟩, fun q => ⟨⟨q.1, q.2.1⟩, q.2.2⟩⟩
  · obtain ⟨q1, q2⟩ := hk n List.mem_cons_self
    rw [o2 k q2, o1 k q1]
theorem drops_ok : ∀ (ns : List Int) {D : DiskS}, UpD D → (namesS D).Nodup → ∃ E, dropsP D ns = (0, E) ∧ Dropped D E ns
  | [], D, h, hd => ⟨D, rfl, h, StaysD.refl D, Nat.le_refl _, hd, fun k => by simp, fun k _ => rfl⟩
  | n :: ns, D, h, hd => by
    obtain ⟨E1, e1, d1⟩ := drop_one h hd n
    obtain ⟨E2, e2, d2⟩ := drops_ok ns d1.up d1.nodup
    refine ⟨E2, ?_, d2.up, d1.stays.trans d2.stays, Nat.le_trans d2.used d1.used, d2.nodup, fun k => ?_, fun k hk => ?_⟩
    · rw [dropsP_cons, e1]
      simp only
      rw [if_neg (by decide)]
      exact e2
    · rw [d2.names, d1.names]
      simp only [List.mem_cons, List.not_mem_nil, or_false, forall_eq_or_imp, forall_eq]
      exact ⟨fun q => ⟨q.1.1, q.1.2, q.2⟩, fun q => ⟨⟨q.1, q.2.1⟩, q.2.2⟩⟩
    · rw [d2.other k (fun m hm => hk m (List.mem_cons_of_mem _ hm)), d1.other k (fun m hm => by rw [List.mem_singleton.1 hm]; exact hk n List.mem_cons_self)]
structure LaidT (D E : DiskS) (n : Nat) (l : List EntS) (t : ByteArray) (m : ManS) : Prop where
  up : UpD E
  starts : E.starts = D.starts
  cap : E.cap = D.cap
  count : E.count ≤ D.count + 2
  used : usedS E.l ≤ usedS D.l + t.size + (tbB l).size + (mfB m).size
  has : HasT E n l
  names : ∀ k ∈ namesS E, k = mapN ∨ k = ptT n ∨ k = ptB n ∨ k ∈ namesS D
  other : ∀ k, k ≠ mapN → k ≠ newN → k ≠ ptT n → k ≠ ptB n → fileOf E.l k = fileOf D.l k
theorem opens_yes {D : DiskS} {n : Int} {l : List EntS} (hd : D.down = false) (h : HasT D n l) : openE D n = 0 ∧ tgL (rdW D (ptT n)).1 = l := by
  obtain ⟨f, h1, h2, h3⟩ := h
  unfold openE
  rw [rdW_of hd h1, if_neg (by rw [hd]; decide)]
  simp [h2, h3]
theorem write_names {D E : DiskS} {n : Nat} {l : List EntS} {t : ByteArray} (h : writeP D n l t = (0, E)) (hd : (namesS D).Nodup) (w : Wrote D E n l t) : (namesS E).Nodup ∧ StaysD D E ∧ ∀ k ∈ namesS E, k = ptT n ∨ k = ptB n ∨ k ∈ namesS D := by
  have e : E = (layP (layP D (ptB n) t).2 (ptT n) (tbB l)).2 := by
    unfold writeP at h
    split at h
    · cases h
    · split at h
      · cases h
      · split at h
        · cases h
        · split at h
          · rename_i c
            exact absurd (by rw [h]) c
          · split at h
            · rename_i c
              exact absurd (congrArg Prod.fst h) c
            · rw [h]
  rw [e]
  refine ⟨lay_nodup (lay_nodup hd), (sd_lay _ _ _).trans (sd_lay _ _ _), fun k hk => ?_⟩
  rcases lay_name hk with q | q
  · exact Or.inl q
  · rcases lay_name q with q | q
    · exact Or.inr (Or.inl q)
    · exact Or.inr (Or.inr q)
theorem lays_ok {D : DiskS} {S : IxS} (dk : IxDk D S) (hd : (namesS D).Nodup) (ok : IxOk D S) {n : Nat} (hn : S.m.next = (n : Nat)) (hn9 : n ≤ 150) {l : List EntS} (hr : RiseE l) (hm : ∀ x ∈ l, mayE x = true) (hx : ∀ x ∈ l, EntOk x) (hl : l.length ≤ 120) {t : ByteArray} (ht : t.size ≤ 256 + 4 * l.length)
    {R : LvL} {en : Int} (hM : MayM (nextM S R en)) (hroom : 4000 * n + 12000 ≤ D.cap) :
    ∃ E x, layI D n l t 0 (nextM S R en) = (0, E) ∧ layIX S D n l t 0 R en = laidX S R en x S.mem ∧ x.n = n ∧ x.l = l ∧ keepsP x.t x.l = true ∧ LaidT D E n l t (nextM S R en) := by
  have hok := tbOk_of hr hm
  obtain ⟨k1, k2⟩ := dk.none_ ok
  obtain ⟨k3, k4⟩ := k2 n (by omega) (by omega)
  have hu := dk.used
  have hts := tbB_size l
  have hms := mfB_small hM
  have hmany := dk.many hd
  have hm40 := ok.many_le
  obtain ⟨E1, e1, w1⟩ := write_ok dk.up (n := n) (by omega) hok (t := t) (by omega) k3 k4 (by omega)
  obtain ⟨d1, s1, n1⟩ := write_names e1 hd w1
  have hh := w1.has (by omega) hx hok
  obtain ⟨o1, o2⟩ := opens_yes w1.up.down hh
  obtain ⟨j, hj, o3⟩ := (openE_same E1 E1.count (n : Nat) w1.up.down).2
  have o3' : openD E1 (n : Nat) = { E1 with count := E1.count + j } := o3
  have hnew : fileOf E1.l newN = none := by rw [w1.other newN (fun e => (pt_far (n := n) (by omega)).2.1 e.symm) (fun e => (pt_far (n := n) (by omega)).2.2.2 e.symm)]; exact k1
  obtain ⟨E2, e2, u2, s2, q2, l2, f2, g2, h2, x2⟩ := swap_ok (D := { E1 with count := E1.count + j }) (w1.up.count _) d1 hM hnew (by show E1.l.length < _; rw [w1.many]; omega) (by show usedS E1.l + _ + _ ≤ E1.cap; rw [w1.used, w1.cap]; omega)
  have et : takeP E1 n 0 (nextM S R en) = (0, E2) := by
    unfold takeP
    rw [if_neg (by decide), if_neg (by rw [o1]; decide), o3']
    exact e2
  have hw := w1.used
  refine ⟨E2, tabP E1 n, ?_, ?_, rfl, o2, ?_, u2, (s2.starts.trans s1.starts), (s2.cap.trans w1.cap), ?_, ?_, ?_, fun k hk => ?_, fun k a b c d => ?_⟩
  · unfold layI
    rw [e1]
    simp only
    rw [if_neg (by decide), et]
    simp
  · unfold layIX
    rw [e1]
    simp only
    rw [if_neg (by decide)]
    unfold takeX
    rw [et]
    simp
  · show keepsP (ldF _ _ _) _ = true
    exact ldF_keeps _ _ _
  · have := s2.count
    have := w1.count
    show E2.count ≤ _
    simp only at *
    omega
  · show usedS E2.l ≤ _
    simp only at q2
    omega
  · obtain ⟨f, a1, a2, a3⟩ := hh
    exact ⟨f, by rw [h2 _ (fun e => (pt_far (n := n) (by omega)).1 e) (fun e => (pt_far (n := n) (by omega)).2.1 e)]; exact a1, a2, a3⟩
  · rcases x2 k hk with e | e
    · exact Or.inl e
    · rcases n1 k e with e | e | e
      · exact Or.inr (Or.inl e)
      · exact Or.inr (Or.inr (Or.inl e))
      · exact Or.inr (Or.inr (Or.inr e))
  · rw [h2 k a b]
    exact w1.other k c d
theorem nd_done {D : DiskS} {l : List FileS} (h : (namesS D).Nodup) (k : (l.map FileS.name).Nodup) : (namesS (doneS D { D with l := l }).2).Nodup := by
  unfold doneS
  split
  · exact k
  · rw [names_sink]
    exact h
theorem nd_delete {D : DiskS} (h : (namesS D).Nodup) (n : ByteArray) : (namesS (deleteS D n).2).Nodup := by
  unfold deleteS
  split
  · exact h
  · split
    · exact nd_done h (drop_nodup h)
    · exact h
theorem clear_nodup {l : List FileS} (n : ByteArray) (h : (l.map FileS.name).Nodup) : ((clearL l n).map FileS.name).Nodup := by
  unfold clearL
  split
  · exact drop_nodup h
  · exact h
theorem layS_nodup {l : List FileS} {f : FileS} (h : (l.map FileS.name).Nodup) (hn : fileOf l f.name = none) : ((layS l f).map FileS.name).Nodup := by
  have hp : ((layS l f).map FileS.name).Perm (f.name :: l.map FileS.name) := by
    unfold layS
    generalize aheadS l f.name = k
    have e : l.map FileS.name = (l.take k).map FileS.name ++ (l.drop k).map FileS.name := by rw [← List.map_append, List.take_append_drop]
    rw [e, List.map_append, List.map_append]
    show ((l.take k).map FileS.name ++ [f.name] ++ (l.drop k).map FileS.name).Perm _
    rw [List.append_assoc]
    exact List.perm_middle
  refine hp.nodup_iff.2 (List.nodup_cons.2 ⟨fun hm => ?_, h⟩)
  obtain ⟨g, hg, en⟩ := List.mem_map.1 hm
  exact fileOf_none.1 hn g hg en
theorem nd_rename {D : DiskS} (h : (namesS D).Nodup) (n m : ByteArray) : (namesS (renameS D n m).2).Nodup := by
  unfold renameS
  split
  · exact h
  · split
    · split
      · exact h
      · refine nd_done h ?_
        split
        · exact h
        · cases hk : D.l[findS D.l n]? with
          | none =>
            unfold renameL
            rw [hk]
            exact h
          | some f =>
            rw [renameL_at hk]
            exact layS_nodup (clear_nodup m (drop_nodup h)) (clear_none (drop_nodup h))
    · exact h
theorem nd_swap {D : DiskS} (h : (namesS D).Nodup) (m : ManS) : (namesS (swapP D m).2).Nodup := by
  unfold swapP
  split
  · exact h
  · split
    · exact h
    · split
      · exact nd_delete h _
      · split
        · exact nd_delete h _
        · split
          · exact lay_nodup (nd_delete h _)
          · exact nd_rename (lay_nodup (nd_delete h _)) _ _
theorem nd_openD {D : DiskS} (h : (namesS D).Nodup) (n : Int) : (namesS (openD D n)).Nodup := by
  cases hd : D.down with
  | true =>
    unfold openD
    rw [if_pos hd]
    exact h
  | false =>
    obtain ⟨j, -, e⟩ := (openE_same D D.count n hd).2
    have e' : openD D n = { D with count := D.count + j } := e
    rw [e']
    exact h
theorem nd_write {D : DiskS} (h : (namesS D).Nodup) (n : Int) (l : List EntS) (t : ByteArray) : (namesS (writeP D n l t).2).Nodup := by
  unfold writeP
  split
  · exact h
  · split
    · exact h
    · split
      · exact h
      · split
        · exact lay_nodup h
        · split
          · exact nd_delete (lay_nodup (lay_nodup h)) _
          · exact lay_nodup (lay_nodup h)
theorem nd_take {D : DiskS} (h : (namesS D).Nodup) (n pe : Nat) (m : ManS) : (namesS (takeP D n pe m).2).Nodup := by
  unfold takeP
  split
  · exact h
  · split
    · exact nd_openD h _
    · exact nd_swap (nd_openD h _) _
theorem nd_drop {D : DiskS} (h : (namesS D).Nodup) (n : Int) : (namesS (dropP D n).2).Nodup := by
  unfold dropP
  split
  · exact nd_delete h _
  · split
    · exact nd_delete (nd_delete h _) _
    · exact nd_delete (nd_delete h _) _
theorem nd_layI {D : DiskS} (h : (namesS D).Nodup) (n : Nat) (l : List EntS) (t : ByteArray) (pe : Nat) (m : ManS) : (namesS (layI D n l t pe m).2).Nodup := by
  unfold layI
  split
  · exact nd_write h _ _ _
  · split
    · exact nd_drop (nd_take (nd_write h _ _ _) _ _ _) _
    · exact nd_take (nd_write h _ _ _) _ _ _
structure StepOk (D E : DiskS) (S S' : IxS) : Prop where
  ok : IxOk E S'
  dk : IxDk E S'
  has : ∀ x, IxHas S' x ↔ IxHas S x
  cap : E.cap = D.cap
  count : E.count ≤ D.count + 2
theorem IxDk.count {D : DiskS} {S : IxS} (h : IxDk D S) (k : Nat) : IxDk { D with count := k } S := ⟨h.up.count k, h.starts, h.only, h.used⟩
theorem flush_ok {D : DiskS} {S : IxS} (dk : IxDk D S) (hd : (namesS D).Nodup) (ok : IxOk D S) {n : Nat} (hn : S.m.next = (n : Nat)) (hn9 : n ≤ 150) (hq : S.mem ≠ []) (hl : S.mem.length ≤ 120) {r : Nat} {t : ByteArray} (hft : FltOf S.mem r t)
    {en : Int} (he0 : 0 ≤ en) (he1 : en ≤ 2147483647) (hpe : addLE S.m.lv n = 0) (hroom : 4000 * n + 12000 ≤ D.cap) :
    ∃ E S', flushI 0 D S t n 0 en = (0, E) ∧ flushIX 0 D S t n 0 en = S' ∧ StepOk D E S S' ∧ S'.mem = [] ∧ S'.m = ⟨S.m.next + 1, en, S.m.seed, addL S.m.lv n⟩ := by
  have ht := flt_size (by omega) hft
  obtain ⟨a1, a2, -⟩ := addL_ok hpe
  have a3 := fun y => addL_mem hpe y
  have hmx := ok.may
  have hM : MayM (nextM S (addL S.m.lv n) en) := ⟨by show 0 ≤ S.m.next + 1; omega, by show S.m.next + 1 ≤ _; omega, he0, he1, a1, fun y hy => by
    show y < S.m.next + 1
    rcases (a3 y).1 hy with e | e
    · omega
    · have := hmx.2.2.2.2.2 y e; omega⟩
  obtain ⟨E, x, e1, e2, xn, xl, xk, L⟩ := lays_ok dk hd ok hn hn9 ok.rise ok.mayE ok.ok hl ht hM hroom
  have hst : ∀ u ∈ S.T, u ∈ stayT S.T (addL S.m.lv n) := fun u hu => List.mem_filter.2 ⟨hu, decide_eq_true ((a3 _).2 (Or.inr ((ok.nums _).2 ⟨u, hu, rfl⟩)))⟩
  have hu := dk.used
  have hts := tbB_size S.mem
  have hms := mfB_small hM
  have hLu := L.used
  refine ⟨E, laidX S (addL S.m.lv n) en x [], ?_, ?_, ⟨?_, ⟨L.up, L.starts.trans dk.starts, fun k hk => ?_, ?_⟩, fun y => ?_, L.cap, L.count⟩, rfl, rfl⟩
  · unfold flushI
    rw [if_neg (by decide), if_neg hq]
    exact e1
  · unfold flushIX
    rw [if_neg (by decide), if_neg hq, e1, e2]
    simp only
    rw [if_pos trivial]
    rfl
  · refine laid_ok ok hn hM xn (by rw [xl]; exact L.has) xk (P := fun _ => True) (fun y => by rw [a3 y]; simp) (fun u hu => ?_) List.Pairwise.nil (fun y hy => by cases hy) (fun y hy => by cases hy)
    have hu' := (List.mem_filter.1 hu).1
    have h2 := ok.num_le hu'
    have hun : u.n ≤ 999999 := by omega
    have := pt_far hun
    exact L.other _ this.1 this.2.1 (fun e => by have := (pt_inj hun (by omega)).1 e; omega) (fun e => pt_ne (by omega) hun e.symm)
  · show k = mapN ∨ ∃ u ∈ stayT S.T (addL S.m.lv n) ++ [x], k = ptT u.n ∨ k = ptB u.n
    rcases L.names k hk with e | e | e | e
    · exact Or.inl e
    · exact Or.inr ⟨x, List.mem_append_right _ (List.mem_singleton.2 rfl), Or.inl (by rw [xn]; exact e)⟩
    · exact Or.inr ⟨x, List.mem_append_right _ (List.mem_singleton.2 rfl), Or.inr (by rw [xn]; exact e)⟩
    · rcases dk.only k e with e | ⟨u, hu, e⟩
      · exact Or.inl e
      · exact Or.inr ⟨u, List.mem_append_left _ (hst u hu), e⟩
  · show (usedS E.l : Int) ≤ 4000 * (S.m.next + 1)
    omega
  · unfold IxHas
    show (y ∈ [] ∨ ∃ u ∈ stayT S.T (addL S.m.lv n) ++ [x], y ∈ u.l) ↔ _
    constructor
    · rintro (q | ⟨u, hu, q⟩)
      · cases q
      · rcases List.mem_append.1 hu with k | k
        · exact Or.inr ⟨u, (List.mem_filter.1 k).1, q⟩
        · rw [List.mem_singleton.1 k, xl] at q
          exact Or.inl q
    · rintro (q | ⟨u, hu, q⟩)
      · exact Or.inr ⟨x, List.mem_append_right _ (List.mem_singleton.2 rfl), by rw [xl]; exact q⟩
      · exact Or.inr ⟨u, List.mem_append_left _ (hst u hu), q⟩
theorem same_ok {D E : DiskS} {S : IxS} (dk : IxDk D S) (ok : IxOk D S) (up : UpD E) (hs : E.starts = D.starts) (hu : usedS E.l ≤ usedS D.l) (hn : ∀ k ∈ namesS E, k ∈ namesS D) (hf : ∀ u ∈ S.T, fileOf E.l (ptT u.n) = fileOf D.l (ptT u.n)) : IxOk E S ∧ IxDk E S := by
  refine ⟨⟨ok.may, ok.seed, ok.nums, ok.uniq, fun u hu => ?_, ok.keep, ok.rise, ok.ok, ok.mayE⟩, ⟨up, hs.trans dk.starts, fun k hk => dk.only k (hn k hk), ?_⟩⟩
  · obtain ⟨f, h1, h2, h3⟩ := ok.has u hu
    exact ⟨f, by rw [hf u hu]; exact h1, h2, h3⟩
  · have := dk.used
    omega
theorem flush_full {D : DiskS} {S : IxS} (dk : IxDk D S) (hd : (namesS D).Nodup) (ok : IxOk D S) {n : Nat} (hn : S.m.next = (n : Nat)) (hn9 : n ≤ 150) (hq : S.mem ≠ []) (hl : S.mem.length ≤ 120) {r : Nat} {t : ByteArray} (hft : FltOf S.mem r t)
    {en : Int} {pe : Nat} (hpe : pe ≠ 0) (hroom : 4000 * n + 12000 ≤ D.cap) :
    ∃ E, flushI 0 D S t n pe en = (pe, E) ∧ flushIX 0 D S t n pe en = S ∧ StepOk D E S S := by
  have ht := flt_size (by omega) hft
  have hok := tbOk_of ok.rise ok.mayE
  obtain ⟨k1, k2⟩ := dk.none_ ok
  obtain ⟨k3, k4⟩ := k2 n (by omega) (by omega)
  have hu := dk.used
  have hts := tbB_size S.mem
  have hmany := dk.many hd
  have hm40 := ok.many_le
  obtain ⟨E1, e1, w1⟩ := write_ok dk.up (n := n) (by omega) hok (t := t) (by omega) k3 k4 (by omega)
  obtain ⟨d1, s1, n1⟩ := write_names e1 hd w1
  obtain ⟨E2, e2, d2⟩ := drop_one w1.up d1 (n : Nat)
  obtain ⟨E3, e3, u3, c3, p3, l3, z3⟩ := dropP_both w1.up (n := n) (by omega) w1.table w1.bloom
  obtain rfl : E2 = E3 := congrArg Prod.snd (e2.symm.trans e3)
  have et : takeP E1 n pe (nextM S (addL S.m.lv n) en) = (pe, E1) := by unfold takeP; rw [if_pos hpe]
  have eX : takeX S E1 n pe (addL S.m.lv n) en = S := by unfold takeX; rw [et]; exact if_neg hpe
  have hlay : layI D n S.mem t pe (nextM S (addL S.m.lv n) en) = (pe, E2) := by
    unfold layI
    rw [e1]
    simp only
    rw [if_neg (by decide), et]
    simp only
    rw [if_pos hpe, e2]
  have hw := w1.used
  simp only at z3
  obtain ⟨q1, q2⟩ := same_ok (E := E2) dk ok d2.up (d2.stays.starts.trans s1.starts) (by omega) (fun k hk => by
    obtain ⟨b1, b2⟩ := (d2.names k).1 hk
    obtain ⟨b3, b4⟩ := b2 _ List.mem_cons_self
    rcases n1 k b1 with e | e | e
    · exact absurd e b3
    · exact absurd e b4
    · exact e) (fun u hu => by
    have h2 := ok.num_le hu
    have hun : u.n ≤ 999999 := by omega
    have g1 : ptT u.n ≠ ptT n := fun e => by have := (pt_inj hun (by omega)).1 e; omega
    have g2 : ptT u.n ≠ ptB n := fun e => pt_ne (by omega) hun e.symm
    rw [d2.other _ (fun m hm => by rw [List.mem_singleton.1 hm]; exact ⟨g1, g2⟩), w1.other _ g1 g2])
  refine ⟨E2, ?_, ?_, q1, q2, fun x => Iff.rfl, c3.trans w1.cap, by have := w1.count; have := p3; omega⟩
  · unfold flushI
    rw [if_neg (by decide), if_neg hq]
    exact hlay
  · unfold flushIX
    rw [if_neg (by decide), if_neg hq, hlay]
    simp only
    rw [if_neg hpe]
    unfold layIX
    rw [e1]
    simp only
    rw [if_neg (by decide)]
    exact eX
theorem merge_ok {D : DiskS} {S : IxS} (dk : IxDk D S) (hd : (namesS D).Nodup) (ok : IxOk D S) {n : Nat} (hn : S.m.next = (n : Nat)) (hn9 : n ≤ 150) {lev : Int} (hpk : pickE S.m.lv lev = 0) (hal : (allX S (pickL S.m.lv lev)).length ≤ 120) {r : Nat} {t : ByteArray} (hft : FltOf (allX S (pickL S.m.lv lev)) r t) (k : Nat)
    (hroom : 4000 * n + 12000 ≤ D.cap) :
    ∃ E S', mergeI D S t n lev 0 0 k = (0, E) ∧ mergeIX D S t n lev 0 0 k = S' ∧ StepOk { D with count := D.count + k } E S S' ∧ S'.mem = S.mem ∧ S'.m = ⟨S.m.next + 1, S.m.check, S.m.seed, replL S.m.lv lev n⟩ := by
  have hmx := ok.may
  have hre : replE S.m.lv lev n = 0 := by rw [replE_parts (by omega) (fun x hx => by have := hmx.2.2.2.2.2 x hx; omega), hpk]
  have ht := flt_size (by omega) hft
  obtain ⟨a1, a2, -⟩ := replL_ok hre
  have a3 := fun y => replL_mem hre y
  have hM : MayM (nextM S (replL S.m.lv lev n) S.m.check) := ⟨by show 0 ≤ S.m.next + 1; omega, by show S.m.next + 1 ≤ _; omega, hmx.2.2.1, hmx.2.2.2.1, a1, fun y hy => by
    show y < S.m.next + 1
    rcases (a3 y).1 hy with e | ⟨e, -⟩
    · omega
    · have := hmx.2.2.2.2.2 y e; omega⟩
  have dk' := dk.count (D.count + k)
  have ok' : IxOk { D with count := D.count + k } S := ok.count _
  obtain ⟨E1, x, e1, e2, xn, xl, xk, L⟩ := lays_ok dk' hd ok' hn hn9 (allX_rise ok _) (fun y hy => (allX_ok ok _ y hy).2) (fun y hy => (allX_ok ok _ y hy).1) (by omega) ht hM hroom
  have hnd1 : (namesS E1).Nodup := by
    have := nd_layI (D := { D with count := D.count + k }) hd n (allX S (pickL S.m.lv lev)) t 0 (nextM S (replL S.m.lv lev n) S.m.check)
    rw [e1] at this
    exact this
  obtain ⟨E, e3, d3⟩ := drops_ok (pickL S.m.lv lev) L.up hnd1
  have hst : ∀ u : TbS, u ∈ stayT S.T (replL S.m.lv lev n) ↔ u ∈ S.T ∧ (u.n : Int) ∉ pickL S.m.lv lev := fun u => by
    unfold stayT
    rw [List.mem_filter, decide_eq_true_iff, a3]
    constructor
    · rintro ⟨h1, h2 | h2⟩
      · have := (ok.num_le h1).2; omega
      · exact ⟨h1, h2.2⟩
    · rintro ⟨h1, h2⟩
      exact ⟨h1, Or.inr ⟨(ok.nums _).2 ⟨u, h1, rfl⟩, h2⟩⟩
  have hpn : ∀ y ∈ pickL S.m.lv lev, ∃ j : Nat, y = (j : Nat) ∧ j < n := fun y hy => by
    obtain ⟨u, h1, rfl⟩ := (ok.nums y).1 (pick_sub y hy)
    exact ⟨u.n, rfl, by have := (ok.num_le h1).2; omega⟩
  have hfar : ∀ j : Nat, j ≤ 999999 → (j : Int) ∉ pickL S.m.lv lev → ∀ y ∈ pickL S.m.lv lev, (ptT j ≠ ptT y ∧ ptT j ≠ ptB y) ∧ ptB j ≠ ptT y ∧ ptB j ≠ ptB y := fun j hj hnj y hy => by
    obtain ⟨i, rfl, hi⟩ := hpn y hy
    exact ⟨⟨fun e => by have := (pt_inj hj (by omega)).1 e; subst this; exact hnj hy, fun e => pt_ne (by omega) hj e.symm⟩, fun e => pt_ne hj (by omega) e, fun e => by have := (pt_inj hj (by omega)).2 e; subst this; exact hnj hy⟩
  have hnn : ((n : Nat) : Int) ∉ pickL S.m.lv lev := fun hm => by
    obtain ⟨i, e, hi⟩ := hpn _ hm
    omega
  have hu := dk.used
  have hts := tbB_size (allX S (pickL S.m.lv lev))
  have hms := mfB_small hM
  have hLu := L.used
  have hdu := d3.used
  have hlu2 : usedS E1.l ≤ usedS D.l + t.size + (tbB (allX S (pickL S.m.lv lev))).size + (mfB (nextM S (replL S.m.lv lev n) S.m.check)).size := hLu
  refine ⟨E, laidX S (replL S.m.lv lev n) S.m.check x S.mem, ?_, ?_, ⟨?_, ⟨d3.up, d3.stays.starts.trans (L.starts.trans dk.starts), fun q hq => ?_, ?_⟩, fun y => ?_, d3.stays.cap.trans L.cap, by rw [d3.stays.count]; exact L.count⟩, rfl, rfl⟩
  · unfold mergeI
    rw [if_neg (by decide), e1]
    simp only
    rw [if_neg (by decide)]
    exact e3
  · unfold mergeIX
    rw [if_neg (by decide)]
    exact e2
  · refine laid_ok ok hn hM xn ?_ xk (P := fun y => y ∉ pickL S.m.lv lev) a3 (fun u hu => ?_) ok.rise ok.ok ok.mayE
    · rw [xl]
      obtain ⟨f, b1, b2, b3⟩ := L.has
      exact ⟨f, by rw [d3.other _ (fun y hy => (hfar n (by omega) hnn y hy).1)]; exact b1, b2, b3⟩
    · obtain ⟨hu1, hu2⟩ := (hst u).1 hu
      have h2 := ok.num_le hu1
      have hun : u.n ≤ 999999 := by omega
      have := pt_far hun
      rw [d3.other _ (fun y hy => (hfar u.n hun hu2 y hy).1)]
      exact L.other _ this.1 this.2.1 (fun e => by have := (pt_inj hun (by omega)).1 e; omega) (fun e => pt_ne (by omega) hun e.symm)
  · show q = mapN ∨ ∃ u ∈ stayT S.T (replL S.m.lv lev n) ++ [x], q = ptT u.n ∨ q = ptB u.n
    obtain ⟨h1, h2⟩ := (d3.names q).1 hq
    rcases L.names q h1 with e | e | e | e
    · exact Or.inl e
    · exact Or.inr ⟨x, List.mem_append_right _ (List.mem_singleton.2 rfl), Or.inl (by rw [xn]; exact e)⟩
    · exact Or.inr ⟨x, List.mem_append_right _ (List.mem_singleton.2 rfl), Or.inr (by rw [xn]; exact e)⟩
    · rcases dk.only q e with e | ⟨u, hu, e⟩
      · exact Or.inl e
      · refine Or.inr ⟨u, List.mem_append_left _ ((hst u).2 ⟨hu, fun hm => ?_⟩), e⟩
        obtain ⟨b1, b2⟩ := h2 _ hm
        rcases e with e | e
        · exact b1 e
        · exact b2 e
  · show (usedS E.l : Int) ≤ 4000 * (S.m.next + 1)
    omega
  · unfold IxHas
    show (y ∈ S.mem ∨ ∃ u ∈ stayT S.T (replL S.m.lv lev n) ++ [x], y ∈ u.l) ↔ _
    constructor
    · rintro (q | ⟨u, hu, q⟩)
      · exact Or.inl q
      · rcases List.mem_append.1 hu with k | k
        · exact Or.inr ⟨u, ((hst u).1 k).1, q⟩
        · rw [List.mem_singleton.1 k, xl] at q
          obtain ⟨v, hv, -, hy⟩ := allX_mem.1 q
          exact Or.inr ⟨v, hv, hy⟩
    · rintro (q | ⟨u, hu, q⟩)
      · exact Or.inl q
      · by_cases hp : (u.n : Int) ∈ pickL S.m.lv lev
        · exact Or.inr ⟨x, List.mem_append_right _ (List.mem_singleton.2 rfl), by rw [xl]; exact allX_mem.2 ⟨u, hu, hp, q⟩⟩
        · exact Or.inr ⟨u, List.mem_append_left _ ((hst u).2 ⟨hu, hp⟩), q⟩
end
end Go.Proofs.YtcpfkaehefcakaaGreat

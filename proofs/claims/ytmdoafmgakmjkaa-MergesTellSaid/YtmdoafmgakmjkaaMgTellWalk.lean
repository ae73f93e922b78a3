/- 'MergesTell': the walk. -/
import Derived.Test.YtmdoafmgakmjkaaMgRise
import Derived.Test.YtmdoafmgakmjkaaMgRef
import Derived.Test.YtmdoafmgakmjkaaMgEx
namespace Go.Proofs.Ytmdoafmgakmjkaa
open Go.RowKit Go.Shelf
set_option linter.unusedVariables false
set_option maxRecDepth 100000

namespace mergesTell
theorem each_at {w : World} {base : Nat} {M : List LstS} {k : Nat} {x : LstS} (h : EachR w base M) (hx : M[k]? = some x) : EntsIn w x.v x.l := EntRow.in_ (h x (List.mem_of_getElem? hx))
theorem some_ {w : World} {base n c : Nat} {A : Option Addr} {l : List EntS} (h : EntRow w base (.slice A n c) l) (hn : 0 < n) : ∃ g, A = some ⟨g, 0, none⟩ ∧ base ≤ g ∧ g < w.heap.size := by
  rcases h.2 with ⟨hv, h0⟩ | ⟨g, cap, cur, hv, hg, hh, _⟩
  · obtain ⟨-, rfl, -⟩ := Value.slice.inj hv
    omega
  · obtain ⟨rfl, rfl, -⟩ := Value.slice.inj hv
    exact ⟨g, rfl, hg, (Array.getElem?_eq_some_iff.1 hh).1⟩
theorem three {B : Nat} {w0 w : World} {g i j k : Nat} (h : Below B w0 w) (hg : B ≤ g) (a b c : Value) : Below B w0 (((w.setCell ⟨g, i, none⟩ a).setCell ⟨g, j, none⟩ b).setCell ⟨g, k, none⟩ c) := ((h.setCell hg _).setCell hg _).setCell hg _
set_option maxHeartbeats 4000000 in
theorem walk_ (w : World) (v : Value) (L : List LstS) (hL : ListsIn w v L) :
    Calls Try.prog 3 #[v] w (MgEnd w) := by
  have H1 := Lib.hid fun W => one_true W
  have HG := Lib.hid (great_any v L w hL)
  have HLIN := Lib.hid hL
  obtain ⟨A, off, cap, hv, -, hcell⟩ := hL.1.form
  have HC := Lib.hid hcell
  have HE := Lib.hid hL.2
  obtain ⟨n, hnn⟩ : ∃ n, n = L.length := ⟨_, rfl⟩
  have HN := Lib.hid hnn
  rw [← hnn] at hv
  subst hv
  clear hL hcell hnn
  go_enter Try.func3, Try.ntmps3
  go_wp2_with fail
  refine HG.out.mono ?_
  rintro e w0 ⟨q, rfl, rfl, hq⟩
  cases q with
  | true =>
    clear hq
    go_wp2_with fail
    refine (H1.out _).mono ?_
    rintro e w1 ⟨rfl, hb1⟩
    go_wp2
    go_ret
    exact ⟨rfl, hb1⟩
  | false =>
    have HF := Lib.hid (hq rfl)
    have hn12 : n ≤ 12 := by rw [HN.out]; exact HF.out.1
    clear hq HG
    go_wp2
    go_loopg [3, 4] n (fun g u i wr => ∃ (k : Nat) (M : List LstS) (A : Option Addr) (c : Nat), k + g = n ∧ i = .int .i64 k ∧ u = .slice A k c ∧ LRow wr w.heap.size (.slice A k c) M ∧ EachR wr w.heap.size M ∧ els M = (els L).take k ∧ Below w.heap.size w wr)
    case atStart => exact ⟨0, [], none, 0, by omega, rfl, rfl, LRow.nil _ _, fun x hx => (by cases hx), rfl, Below.refl _ _⟩
    case round =>
      obtain ⟨k, M, A1, c1, hkg, rfl, rfl, hrow, heach, hels, hbel⟩ := hrel
      have HROW := Lib.hid hrow
      have HEA := Lib.hid heach
      have HELS := Lib.hid hels
      have HBEL := Lib.hid hbel
      clear hrow heach hels hbel
      cases gk with
      | zero =>
        obtain rfl : k = n := by omega
        have s1 : ¬ (k : Int) < (k : Int) := by omega
        obtain ⟨wo, rfl⟩ : ∃ wo, wo = wr := ⟨_, rfl⟩
        have hels2 : els M = els L := by rw [HELS.out]; exact List.take_of_length_le (by rw [els_length, HN.out]; exact Nat.le_refl _)
        have hMl : M.length = k := by rw [← els_length, hels2, els_length, HN.out]
        have htot := few_tot HF.out
        have HMG := Lib.hid (merge_any _ M wo (LRow.in_ HROW.out HEA.out.each) (by omega) (by rw [hels2]; omega))
        have HRF := Lib.hid (fun W (hW : Below wo.heap.size wo W) => merger_any (.slice A k cap) L W (HLIN.out.below (HBEL.out.trans (hW.mono HBEL.out.size)) (Nat.le_refl _)) (by rw [← HN.out]; omega) (by omega))
        have HRL := Lib.hid (Nat.le_trans (merge_length (els L)) htot)
        rw [hels2] at HMG
        have HEL := Lib.hid hels2
        have HML := Lib.hid hMl
        clear hels2 hMl htot
        generalize mergeE (els L) = R at *
        obtain ⟨rl, hrl⟩ : ∃ rl, rl = R.length := ⟨_, rfl⟩
        have HR := Lib.hid hrl
        have hrl2 : rl ≤ 720 := by rw [hrl]; exact HRL.out
        unfold EntsOut at HMG HRF
        rw [← hrl] at HMG HRF
        clear hrl HRL
        go_wp2_with fail
        refine HMG.out.mono ?_
        rintro e w2 ⟨Am, cm, rfl, rm, b2⟩
        have RM := Lib.hid rm
        go_wp2_with fail
        refine (HRF.out w2 b2).mono ?_
        rintro e w3 ⟨Ar, cr, rfl, rr, b3⟩
        have HS := Lib.hid (mg_kept ((show EntsIn w2 (.slice Am rl cm) R by have h := RM.out; rw [HR.out] at h ⊢; exact EntRow.in_ h).below b3 (Nat.le_refl _)) (show EntsIn w3 (.slice Ar rl cr) R by rw [HR.out] at rr ⊢; exact EntRow.in_ rr) (by have := HR.out; omega) (by have := HR.out; omega) rfl)
        have B3 := Lib.hid (bj b2 b3)
        have B23 := Lib.hid b3
        clear rm rr b2 b3 HMG HRF
        go_wp2_with fail
        refine HS.out.mono ?_
        rintro e w4 ⟨rfl, b4⟩
        have B4 := Lib.hid (bj B3.out b4)
        have RM4 := Lib.hid (show EntRow w4 wo.heap.size (.slice Am rl cm) R by have h := EntRow.below RM.out (bj B23.out b4) (Nat.le_refl _); rw [HR.out] at h ⊢; exact h)
        clear b4 HS B3 B23 RM
        go_wp2
        go_loopg [6] rl (fun g i wx => ∃ (j : Nat) (l' : List EntS), j + g = rl ∧ i = .int .i64 j ∧ rl = l'.length ∧ EntRow wx wo.heap.size (.slice Am rl cm) l' ∧ Below wo.heap.size wo wx)
        case atStart => exact ⟨0, R, by omega, rfl, HR.out, RM4.out, B4.out⟩
        case round =>
          clear RM4 B4 HR
          clear R
          obtain ⟨j, l', hjg, rfl, hl', hrow, hb⟩ := hrel
          cases gk with
          | zero =>
            obtain rfl : j = rl := by omega
            have s2 : ¬ (j : Int) < (j : Int) := by omega
            have HB := Lib.hid hb
            clear hrow hb hl'
            clear l'
            obtain ⟨w5, rfl⟩ : ∃ w5, w5 = wr := ⟨_, rfl⟩
            go_wp2
            go_loopg [7] k (fun g i wx => ∃ (i2 : Nat), i2 + g = k ∧ i = .int .i64 i2 ∧ Below w5.heap.size w5 wx)
            case atStart => exact ⟨0, by omega, rfl, Below.refl _ _⟩
            case round =>
              obtain ⟨i, hig, rfl, hb⟩ := hrel
              have HBW := Lib.hid (show Below wo.heap.size wo wr from HB.out.trans (hb.mono HB.out.size))
              have HB2 := Lib.hid hb
              clear hb
              cases gk with
              | zero =>
                obtain rfl : i = k := by omega
                have s3 : ¬ (i : Int) < (i : Int) := by omega
                have HBF := Lib.hid (show Below w.heap.size w wr from HBEL.out.trans (HBW.out.mono HBEL.out.size))
                go_wp2_with fail
                refine (H1.out _).mono ?_
                rintro e w6 ⟨rfl, hb6⟩
                go_wp2
                go_ret
                exact ⟨rfl, bj HBF.out hb6⟩
              | succ gi =>
                have hik : i < k := by omega
                have s3 : (i : Int) < (k : Int) := by omega
                obtain ⟨y, hy⟩ : ∃ y, L[i]? = some y := ⟨_, List.getElem?_eq_getElem (by rw [← HN.out]; exact hik)⟩
                obtain ⟨x, hx⟩ : ∃ x, M[i]? = some x := ⟨_, List.getElem?_eq_getElem (by rw [HML.out]; exact hik)⟩
                have hxy : x.l = y.l := by
                  have h1 := els_at hx
                  rw [HEL.out, els_at hy] at h1
                  exact (Option.some.inj h1).symm
                have hml := HF.out.2 y (List.mem_of_getElem? hy)
                obtain ⟨b, rfl, hbk, cy⟩ := HC.out i y hy
                obtain ⟨g, rfl, hg1, hg2, -⟩ := LRow.some_ HROW.out (by rw [HML.out]; omega)
                obtain ⟨cx, -⟩ := LRow.cell HROW.out HML.out.symm hx
                have hin := HE.out y (List.mem_of_getElem? hy)
                have hix := each_at HEA.out hx
                clear hx hy
                obtain ⟨yv, yl⟩ := y
                obtain ⟨xv, xl⟩ := x
                simp only at cy cx hin hix hxy hml
                subst hxy
                have hbw := HBEL.out.trans (HBW.out.mono HBEL.out.size)
                have cy2 := (hbw.cell (p := ⟨b, off + i, none⟩) hbk).trans cy
                have cx2 := (HBW.out.cell (p := ⟨g, i, none⟩) hg2).trans cx
                have hbl : b < wr.heap.size := Nat.lt_of_lt_of_le hbk hbw.size
                have hgl : g < wr.heap.size := Nat.lt_of_lt_of_le hg2 HBW.out.size
                have HSM := Lib.hid (show ∀ W, Below wr.heap.size wr W → Calls Try.prog 9 #[xv, yv] W fun e w' => e = .returned (.bool true) ∧ Below W.heap.size W w' from fun W hW =>
                  mg_kept ((hix.below HBW.out (Nat.le_refl _)).below hW (Nat.le_refl _)) ((hin.below hbw (Nat.le_refl _)).below hW (Nat.le_refl _)) (by omega) (by omega) rfl)
                obtain ⟨B, o2, c3, rfl, -, -⟩ := hin.form
                obtain ⟨B', o3, c4, rfl, -, -⟩ := hix.form
                obtain ⟨m, hm⟩ : ∃ m, m = xl.length := ⟨_, rfl⟩
                rw [← hm] at cx2 cy2 HSM
                clear hix hin cx cy hbw hm hml
                have HSS : Hid (∀ W, Below wr.heap.size wr W → Below wr.heap.size wr W ∧ W.cell? ⟨b, off + i, none⟩ = some (.slice B m c3) ∧ W.cell? ⟨g, i, none⟩ = some (.slice B' m c4)) := Lib.hid fun W hB =>
                  ⟨hB, (hB.cell (p := ⟨b, off + i, none⟩) hbl).trans cy2, (hB.cell (p := ⟨g, i, none⟩) hgl).trans cx2⟩
                go_wp2_with fail
                go_region_held3 (fun W => Below wr.heap.size wr W ∧ W.cell? ⟨b, off + i, none⟩ = some (.slice B m c3) ∧ W.cell? ⟨g, i, none⟩ = some (.slice B' m c4))
                  (first | (with_reducible assumption) | ((with_reducible refine HSS.out _ ?_); (first | (with_reducible assumption) | (with_reducible exact Below.refl _ _) | (with_reducible exact (Below.refl _ _).drew) | exact (bj (And.left (by with_reducible assumption)) ‹Below _ _ _›)); done) | fail)
                  (first
                  | (go_at_call 9; ((with_reducible refine (HSM.out _ (And.left (by with_reducible assumption))).mono ?_); rintro e w6 ⟨rfl, hb6⟩; have hB6 : Below wr.heap.size wr w6 := bj (And.left (by with_reducible assumption)) hb6))
                  | fail)
                all_goals
                  go_wp2
                  go_roundg gi
                  case measure => omega
                  case rel => exact ⟨i + 1, by omega, by go_num, HB2.out.trans (hB6.mono HB2.out.size)⟩
          | succ gj =>
            have hjr : j < rl := by omega
            have s2 : (j : Int) < (rl : Int) := by omega
            obtain ⟨g, rfl, hg1, hg2⟩ := some_ hrow (by omega)
            obtain ⟨⟨y, q0, q1, q2⟩, f0, f1, f2⟩ := EntRow.at_ hrow hl' hjr
            have HP := Lib.hid (EntRow.put hrow hl' hjr ⟨99, 0, 0⟩)
            have HB := Lib.hid hb
            have HLS := Lib.hid (show rl = (l'.set j ⟨99, 0, 0⟩).length by rw [List.length_set]; exact hl')
            clear hrow hb hl'
            go_wp2
            go_roundg gj
            case measure => omega
            case rel => exact ⟨j + 1, l'.set j ⟨99, 0, 0⟩, by omega, by go_num, HLS.out, HP.out, three HB.out hg1 _ _ _⟩
      | succ gi =>
        have hkn : k < n := by omega
        have s1 : (k : Int) < (n : Int) := by omega
        obtain ⟨y, hy⟩ : ∃ y, L[k]? = some y := ⟨_, List.getElem?_eq_getElem (by rw [← HN.out]; exact hkn)⟩
        have HYL := Lib.hid (els_at hy)
        have hml := HF.out.2 y (List.mem_of_getElem? hy)
        obtain ⟨b, rfl, hbk, cy⟩ := HC.out k y hy
        have hin := HE.out y (List.mem_of_getElem? hy)
        clear hy
        obtain ⟨yv, yl⟩ := y
        simp only at cy hin hml HYL
        have cy2 := (HBEL.out.cell (p := ⟨b, off + k, none⟩) hbk).trans cy
        obtain ⟨A2, c2, w2, e1, e2, e3, -⟩ := ents_append (EntRow.nil wr wr.heap.size) (hin.below HBEL.out (Nat.le_refl _)) (by simp; omega) (Nat.le_refl _) 25
        simp only [List.length_nil, Nat.zero_add, List.nil_append] at e1 e2
        have hb2 : Below wr.heap.size wr w2 := grown_below e3 (Nat.le_refl _) (fun k hk => by cases hk)
        have hMl : k = M.length := by have := congrArg List.length HELS.out; rw [els_length, List.length_take, els_length, ← HN.out] at this; omega
        obtain ⟨w3, u, e4, e5, e6, e7⟩ := lists_more (x := ⟨.slice A2 yl.length c2, yl⟩) (LRow.below HROW.out hb2 (Nat.le_refl _)) hMl (HEA.out.below hb2 (Nat.le_refl _)) (EntRow.down e2 HBEL.out.size) (by omega) (Nat.le_trans HBEL.out.size hb2.size) 22
        have HE2 := Lib.hid (show ∃ (M' : List LstS) (A' : Option Addr) (c' : Nat), u = .slice A' (k + 1) c' ∧ LRow w3 w.heap.size (.slice A' (k + 1) c') M' ∧ EachR w3 w.heap.size M' ∧ els M' = (els L).take (k + 1) ∧ Below w.heap.size w w3 by
          obtain ⟨A', c', rfl, e5⟩ := e5
          refine ⟨_, A', c', rfl, e5, e6, ?_, (HBEL.out.trans (hb2.mono HBEL.out.size)).trans e7⟩
          unfold els at *
          rw [List.take_add_one, HYL.out, List.map_append, HELS.out]
          rfl)
        obtain ⟨B, o2, c3, rfl, -, -⟩ := hin.form
        simp only at e4
        generalize yl.length = m at *
        have HE1 := Lib.hid e1
        have HE4 := Lib.hid e4
        clear e1 e2 e3 e4 e5 e6 e7 hb2 hMl hin cy
        go_wp2_with (first | (at_builtin; refine wpList_append_two rfl _ _ rfl rfl rfl HE1.out ?_) | (at_builtin; refine wpList_append_two rfl _ _ rfl rfl rfl HE4.out ?_) | fail)
        go_roundg gi
        case measure => omega
        case rel =>
          obtain ⟨M', A', c', h1, h2⟩ := HE2.out
          exact ⟨k + 1, M', A', c', by omega, by go_num, h1, h2⟩
theorem walk (w : World) (v : Value) (L : List LstS) (hL : ListsIn w v L) (hok : ∀ x ∈ L, ∀ y ∈ x.l, EntOk y) :
    Calls Try.prog 3 #[v] w fun e w' => e = .returned (.bool true) ∧ Below w.heap.size w w' := walk_ w v L hL
end mergesTell
end Go.Proofs.Ytmdoafmgakmjkaa

/- 'MergesOrder': the walk. -/
import Derived.Test.YtmdoafmgakmjkaaMgRise
import Derived.Test.YtmdoafmgakmjkaaMgEx
import Derived.Test.YtmdoafmgakmjkaaMgSlices
import Derived.Deep.RegionHeldLaw
namespace Go.Proofs.Ytmdoafmgakmjkaa
open Go.RowKit Go.Shelf
set_option linter.unusedVariables false
set_option maxRecDepth 100000

namespace mergesOrder
theorem rises_of {M L : List LstS} (h : els M = (els L).map riseL) : ∀ l ∈ els M, RiseE l := fun l hl => by
  rw [h] at hl
  obtain ⟨l', hl', rfl⟩ := List.mem_map.1 hl
  exact riseL_rise l'
theorem long_of {M L : List LstS} (h : els M = (els L).map riseL) (hf : ∀ x ∈ L, x.l.length ≤ 60) : ∀ l ∈ els M, l.length ≤ 60 := fun l hl => by
  rw [h] at hl
  obtain ⟨l', hl', rfl⟩ := List.mem_map.1 hl
  obtain ⟨x, hx, rfl⟩ := List.mem_map.1 hl'
  exact Nat.le_trans (riseL_length _) (hf x hx)
theorem turned_mem (M : List LstS) (k : Nat) (x : EntS) : (∃ l ∈ els (M.drop k ++ M.take k), x ∈ l) ↔ ∃ l ∈ els M, x ∈ l := by
  constructor
  · rintro ⟨l, hl, hx⟩
    obtain ⟨y, hy, rfl⟩ := List.mem_map.1 hl
    rcases List.mem_append.1 hy with hy | hy
    · exact ⟨y.l, List.mem_map_of_mem (List.mem_of_mem_drop hy), hx⟩
    · exact ⟨y.l, List.mem_map_of_mem (List.mem_of_mem_take hy), hx⟩
  · rintro ⟨l, hl, hx⟩
    obtain ⟨y, hy, rfl⟩ := List.mem_map.1 hl
    rw [← List.take_append_drop k M] at hy
    rcases List.mem_append.1 hy with hy | hy
    · exact ⟨y.l, List.mem_map_of_mem (List.mem_append_right _ hy), hx⟩
    · exact ⟨y.l, List.mem_map_of_mem (List.mem_append_left _ hy), hx⟩
theorem turned {M : List LstS} (hr : ∀ l ∈ els M, RiseE l) (k : Nat) : mergeE (els (M.drop k ++ M.take k)) = mergeE (els M) := by
  refine merge_same (fun l hl => ?_) hr (turned_mem M k)
  obtain ⟨y, hy, rfl⟩ := List.mem_map.1 hl
  rcases List.mem_append.1 hy with hy | hy
  · exact hr _ (List.mem_map_of_mem (List.mem_of_mem_drop hy))
  · exact hr _ (List.mem_map_of_mem (List.mem_of_mem_take hy))
theorem rise_take_ {M : List LstS} (hr : ∀ l ∈ els M, RiseE l) (k : Nat) : ∀ l ∈ els (M.take k), RiseE l := fun l hl => by
  obtain ⟨y, hy, rfl⟩ := List.mem_map.1 hl
  exact hr _ (List.mem_map_of_mem (List.mem_of_mem_take hy))
theorem rise_drop_ {M : List LstS} (hr : ∀ l ∈ els M, RiseE l) (k : Nat) : ∀ l ∈ els (M.drop k), RiseE l := fun l hl => by
  obtain ⟨y, hy, rfl⟩ := List.mem_map.1 hl
  exact hr _ (List.mem_map_of_mem (List.mem_of_mem_drop hy))
theorem parts {M : List LstS} (hr : ∀ l ∈ els M, RiseE l) (k : Nat) {y : LstS} (hy : y ∈ M) : mergeE [mergeE (els (M.take k)), mergeE (els (M.drop k)), y.l] = mergeE (els M) := by
  have hyl : y.l ∈ els M := List.mem_map_of_mem hy
  refine merge_same (fun l hl => ?_) hr fun x => ?_
  · rcases List.mem_cons.1 hl with rfl | hl
    · exact merge_rise (rise_take_ hr k)
    · rcases List.mem_cons.1 hl with rfl | hl
      · exact merge_rise (rise_drop_ hr k)
      · rw [List.mem_singleton.1 hl]
        exact hr _ hyl
  · constructor
    · rintro ⟨l, hl, hx⟩
      rcases List.mem_cons.1 hl with rfl | hl
      · obtain ⟨l, hl, hx⟩ := merge_mem.1 hx
        obtain ⟨z, hz, rfl⟩ := List.mem_map.1 hl
        exact ⟨_, List.mem_map_of_mem (List.mem_of_mem_take hz), hx⟩
      · rcases List.mem_cons.1 hl with rfl | hl
        · obtain ⟨l, hl, hx⟩ := merge_mem.1 hx
          obtain ⟨z, hz, rfl⟩ := List.mem_map.1 hl
          exact ⟨_, List.mem_map_of_mem (List.mem_of_mem_drop hz), hx⟩
        · rw [List.mem_singleton.1 hl] at hx
          exact ⟨_, hyl, hx⟩
    · intro h
      obtain ⟨l, hl, hx⟩ := h
      obtain ⟨z, hz, rfl⟩ := List.mem_map.1 hl
      rw [← List.take_append_drop k M] at hz
      rcases List.mem_append.1 hz with hz | hz
      · exact ⟨_, List.mem_cons_self, merge_mem.2 ⟨z.l, List.mem_map_of_mem hz, hx⟩⟩
      · exact ⟨_, List.mem_cons_of_mem _ List.mem_cons_self, merge_mem.2 ⟨z.l, List.mem_map_of_mem hz, hx⟩⟩
theorem again {R : List EntS} (hr : RiseE R) : mergeE [R] = R := rise_ext (merge_rise fun l hl => by rw [List.mem_singleton.1 hl]; exact hr) hr fun x => by
  rw [merge_mem]
  constructor
  · rintro ⟨l, hl, hx⟩
    rw [List.mem_singleton.1 hl] at hx
    exact hx
  · exact fun h => ⟨R, List.mem_singleton.2 rfl, h⟩
theorem tot_sub {M N : List LstS} (hN : ∀ x ∈ N, x ∈ M) (hl : ∀ l ∈ els M, l.length ≤ 60) (hn : N.length ≤ 12) : totL (els N) ≤ 720 := by
  have h1 := tot_all (L := els N) (b := 60) (fun l h => by
    obtain ⟨x, hx, rfl⟩ := List.mem_map.1 h
    exact hl _ (List.mem_map_of_mem (hN x hx)))
  rw [els_length] at h1
  omega
set_option maxHeartbeats 8000000 in
theorem walk_ (w : World) (v : Value) (L : List LstS) (by_ : Nat) (hL : ListsIn w v L) (hby : by_ < 256) :
    Calls Try.prog 5 #[v, .int .u8 (by_ : Nat)] w (MgEnd w) := by
  have H1 := Lib.hid fun W => one_true W
  have HG := Lib.hid (great_any v L w hL)
  obtain ⟨A, off, cap, hv, -, -⟩ := hL.1.form
  have HRI := Lib.hid (fun hf => rising_any v L w hL hf)
  obtain ⟨n, hnn⟩ : ∃ n, n = L.length := ⟨_, rfl⟩
  have HN := Lib.hid hnn
  unfold RisesEnd at HRI
  rw [← hnn] at hv HRI
  subst hv
  have b0 : (by_ : Int) < 256 := by omega
  clear hL hnn
  go_enter Try.func5, Try.ntmps5
  go_wp2_with fail
  refine HG.out.mono ?_
  rintro e w0 ⟨q, rfl, rfl, hq⟩
  cases q with
  | true =>
    clear hq HRI
    go_wp2_with fail
    refine (H1.out _).mono ?_
    rintro e w1 ⟨rfl, hb1⟩
    go_wp2
    go_ret
    exact ⟨rfl, hb1⟩
  | false =>
    have HF := Lib.hid (hq rfl)
    have hn12 : n ≤ 12 := by rw [HN.out]; exact HF.out.1
    have HRI2 := Lib.hid (HRI.out HF.out)
    clear hq HG HRI
    by_cases h0 : n = 0
    · subst h0
      clear HRI2 hn12
      go_wp2_with fail
      refine (H1.out _).mono ?_
      rintro e w1 ⟨rfl, hb1⟩
      go_wp2
      go_ret
      exact ⟨rfl, hb1⟩
    · have s4 : ((n : Int) == 0) = false := beq_eq_false_iff_ne.2 (by omega)
      go_wp2_with fail
      refine HRI2.out.mono ?_
      rintro e w1 ⟨M, A1, c1, rfl, r1, ea1, els1, b1⟩
      have hMl : M.length = n := by rw [rises_length els1, HN.out]
      have HR0 := Lib.hid (rises_of els1)
      have HL0 := Lib.hid (long_of els1 HF.out.2)
      have HMG := Lib.hid (merge_any _ M w1 (LRow.in_ r1 ea1.each) (by omega) (Nat.le_trans (tot_sub (fun x hx => hx) HL0.out (by omega)) (by decide)))
      have HRR := Lib.hid (merge_rise HR0.out)
      have HRL := Lib.hid (Nat.le_trans (merge_length (els M)) (tot_sub (fun x hx => hx) HL0.out (by omega)))
      have HT := Lib.hid (fun k => turned HR0.out k)
      have HP := Lib.hid (fun k y hy => parts HR0.out k (y := y) hy)
      have HROW := Lib.hid r1
      have HEA := Lib.hid ea1
      have HB1 := Lib.hid b1
      have HML := Lib.hid hMl
      clear HRI2 r1 ea1 els1 b1 hMl
      generalize mergeE (els M) = R at *
      obtain ⟨rl, hrl⟩ : ∃ rl, rl = R.length := ⟨_, rfl⟩
      have HR := Lib.hid hrl
      have hrl2 : rl ≤ 720 := by rw [hrl]; exact HRL.out
      unfold EntsOut at HMG
      rw [← hrl] at HMG
      clear hrl HRL
      obtain ⟨k, hk⟩ : ∃ k, k = by_ % n := ⟨_, rfl⟩
      have hkn : k < n := by rw [hk]; exact Nat.mod_lt _ (by omega)
      have s3 : (by_ : Int) % (n : Int) = (k : Int) := by rw [hk]; rfl
      have s5 : IntKind.i64.wrap (by_ : Int) = (by_ : Int) := IntWalk.i64_in _ (by omega)
      clear hk
      go_wp2_with fail
      refine HMG.out.mono ?_
      rintro e w2 ⟨Am, cm, rfl, rm, b2⟩
      have RM := Lib.hid (show EntsIn w2 (.slice Am rl cm) R by rw [HR.out] at rm ⊢; exact EntRow.in_ rm)
      have B2 := Lib.hid (HB1.out.trans (b2.mono HB1.out.size))
      have ROW2 := Lib.hid (LRow.below HROW.out b2 (Nat.le_refl _))
      have EA2 := Lib.hid (Each.below HEA.out.each b2 (Nat.le_refl _))
      clear rm b2 HMG HROW HEA HB1
      obtain ⟨B1, d1, q1, p1⟩ := lists_from (k := k) (LRow.at_ ROW2.out) (by rw [HML.out]; omega)
      obtain ⟨B2', d2, q2, p2⟩ := lists_to (m := k) (LRow.at_ ROW2.out) (by rw [HML.out]; omega)
      rw [HML.out] at q1 p1
      have HP1 := Lib.hid p1
      have HP2 := Lib.hid p2
      have HD : Hid ((M.drop k).length ≤ 12 ∧ (M.take k).length ≤ 12 ∧ (M.drop k ++ M.take k).length ≤ 12) := Lib.hid (by
        have h1 := HML.out
        refine ⟨by rw [List.length_drop]; omega, by rw [List.length_take]; omega, ?_⟩
        rw [List.length_append, List.length_drop, List.length_take]
        omega)
      have H1C := Lib.hid (show (∀ u ∈ vals (M.drop k), u.oneCell' = true) ∧ (∀ u ∈ vals (M.take k), u.oneCell' = true) from ⟨(EA2.out.drop k).one, (EA2.out.take k).one⟩)
      have HSZ : Hid (∀ W, Below w2.heap.size w2 W → w2.heap.size ≤ W.heap.size) := Lib.hid fun W hW => hW.size
      have HTS : Hid (∀ W V, Below w2.heap.size w2 W → LRow W w2.heap.size V ([] ++ M.drop k ++ M.take k) → Calls Try.prog 8 #[V] W (GotE W R rl)) := Lib.hid fun W V hW hV => by
        have h := merge_any V ([] ++ M.drop k ++ M.take k) W (LRow.in_ hV (by rw [List.nil_append]; exact ((EA2.out.drop k).both (EA2.out.take k)).below hW (Nat.le_refl _))) (by rw [List.nil_append]; have := HD.out; omega)
          (by rw [List.nil_append]; exact Nat.le_trans (tot_sub (fun x hx => by
            rcases List.mem_append.1 hx with hx | hx
            · exact List.mem_of_mem_drop hx
            · exact List.mem_of_mem_take hx) HL0.out HD.out.2.2) (by decide))
        rw [List.nil_append, HT.out k] at h
        exact h.mono fun e w' h => got_of h HR.out.symm (Below.refl _ _)
      clear p1 p2
      go_wp2_with fail
      simp only [s3]
      go_region_held_law (fun W => Below w2.heap.size w2 W)
        (first | (with_reducible assumption) | (with_reducible exact Below.refl _ _) | (with_reducible exact (Below.refl _ _).drew) | fail)
        (first
        | (refine step_append_lists (L := []) (M := M.drop k) (base := w2.heap.size) (by rfl) _ _ (by rfl) (by rfl) (by rfl) (LRow.nil _ _) (HP1.out _ _ (Nat.le_refl _) (by first | with_reducible assumption | with_reducible exact Below.refl _ _ | with_reducible exact (Below.refl _ _).drew)) H1C.out.1 (by have := HD.out; simp only [List.length_nil]; omega) (HSZ.out _ (by first | with_reducible assumption | with_reducible exact Below.refl _ _ | with_reducible exact (Below.refl _ _).drew)) ?_; intro v1 V1 own1 gr1 at1; have far1 : ∀ z, v1.ownBlock = some z → w2.heap.size ≤ z := far_more (by first | with_reducible assumption | with_reducible exact Below.refl _ _ | with_reducible exact (Below.refl _ _).drew) far_none at1; have b1 : Below w2.heap.size w2 V1 := st_grown (by first | with_reducible assumption | with_reducible exact Below.refl _ _ | with_reducible exact (Below.refl _ _).drew) gr1 far_none)
        | (refine step_append_lists (L := [] ++ M.drop k) (M := M.take k) (by rfl) _ _ (by rfl) (by rfl) (by rfl) own1 (HP2.out _ _ (Nat.le_refl _) b1) H1C.out.2 (by have := HD.out; simp only [List.nil_append]; omega) (HSZ.out _ b1) ?_; intro v2 V2 own2 gr2 at2; have b2 : Below w2.heap.size w2 V2 := st_grown b1 gr2 far1)
        | (go_at_call 8; ((refine (HTS.out _ _ b2 own2).mono ?_); rintro e w4 ⟨A4, c4, rfl, i4, b4⟩; have b24 : Below w2.heap.size w2 w4 := bj b2 b4))
        | fail)
      all_goals
        have I4 := Lib.hid i4
        have B24 := Lib.hid b24
        clear own1 own2 gr1 gr2 at1 at2 far1 b1 b2 b4 i4 b24
        obtain ⟨y, hy⟩ : ∃ y, M[k]? = some y := ⟨_, List.getElem?_eq_getElem (by rw [HML.out]; exact hkn)⟩
        obtain ⟨g, rfl, hg1, hg2, -⟩ := LRow.some_ ROW2.out (by rw [HML.out]; omega)
        obtain ⟨cy, -⟩ := LRow.cell ROW2.out HML.out.symm hy
        have hin := EA2.out y (List.mem_of_getElem? hy)
        have hyl := HL0.out y.l (List.mem_map_of_mem (List.mem_of_getElem? hy))
        have HPT := Lib.hid (HP.out k y (List.mem_of_getElem? hy))
        clear hy
        obtain ⟨yv, yl⟩ := y
        simp only at cy hin HPT hyl
        have HTA := Lib.hid (tot_sub (M := M) (N := M.take k) (fun x hx => List.mem_of_mem_take hx) HL0.out HD.out.2.1)
        have HTB := Lib.hid (tot_sub (M := M) (N := M.drop k) (fun x hx => List.mem_of_mem_drop hx) HL0.out HD.out.1)
        have HLA := Lib.hid (merge_length (els (M.take k)))
        have HLB := Lib.hid (merge_length (els (M.drop k)))
        have HPA : Hid (∀ W, Below w4.heap.size w4 W → Calls Try.prog 8 #[.slice B2' k d2] W (GotE W (mergeE (els (M.take k))) (mergeE (els (M.take k))).length)) := Lib.hid fun W hW => by
          have hB := B24.out.trans (hW.mono B24.out.size)
          exact (merge_any _ (M.take k) W ⟨HP2.out _ _ (Nat.le_refl _) hB, (EA2.out.take k).below hB (Nat.le_refl _)⟩ (by have := HD.out; omega) (Nat.le_trans HTA.out (by decide))).mono fun e w' h => got_of h rfl (Below.refl _ _)
        have HPB : Hid (∀ W, Below w4.heap.size w4 W → Calls Try.prog 8 #[.slice B1 (n - k) d1] W (GotE W (mergeE (els (M.drop k))) (mergeE (els (M.drop k))).length)) := Lib.hid fun W hW => by
          have hB := B24.out.trans (hW.mono B24.out.size)
          exact (merge_any _ (M.drop k) W ⟨HP1.out _ _ (Nat.le_refl _) hB, (EA2.out.drop k).below hB (Nat.le_refl _)⟩ (by have := HD.out; omega) (Nat.le_trans HTB.out (by decide))).mono fun e w' h => got_of h rfl (Below.refl _ _)
        have HPC : Hid (∀ W u v, Below w4.heap.size w4 W → EntsIn W u (mergeE (els (M.take k))) → EntsIn W v (mergeE (els (M.drop k))) → Calls Try.prog 8 #[.slice (some ⟨W.heap.size, 0, none⟩) 3 3] (W.alloc (.cells #[u, v, yv] 25)) (GotE W R rl)) := Lib.hid fun W u v hW hu hv => by
          have hB := B24.out.trans (hW.mono B24.out.size)
          refine merge_lit W [⟨u, mergeE (els (M.take k))⟩, ⟨v, mergeE (els (M.drop k))⟩, ⟨yv, yl⟩] R 3 rl rfl (by decide) ?_ (fun x hx => ?_) HPT.out HR.out.symm
          · show totL [mergeE (els (M.take k)), mergeE (els (M.drop k)), yl] ≤ 500000
            rw [totL_cons, totL_cons, totL_cons]
            have h1 := HTA.out
            have h2 := HTB.out
            have h3 := HLA.out
            have h4 := HLB.out
            have h5 : totL [] = 0 := rfl
            omega
          · rcases List.mem_cons.1 hx with rfl | hx
            · exact hu
            · rcases List.mem_cons.1 hx with rfl | hx
              · exact hv
              · rw [List.mem_singleton.1 hx]
                exact hin.below hB (Nat.le_refl _)
        generalize mergeE (els (M.take k)) = Ra at *
        generalize mergeE (els (M.drop k)) = Rb at *
        obtain ⟨ra, hra⟩ : ∃ ra, ra = Ra.length := ⟨_, rfl⟩
        obtain ⟨rb, hrb⟩ : ∃ rb, rb = Rb.length := ⟨_, rfl⟩
        rw [← hra] at HPA
        rw [← hrb] at HPB
        have HS : Hid (∀ W, Below w4.heap.size w4 W → Below w4.heap.size w4 W ∧ W.cell? ⟨g, k, none⟩ = some yv) := Lib.hid fun W hW =>
          ⟨hW, ((B24.out.trans (hW.mono B24.out.size)).cell (p := ⟨g, k, none⟩) hg2).trans cy⟩
        obtain ⟨By, oy, cy_, rfl, -, -⟩ := hin.form
        obtain ⟨ym, hym⟩ : ∃ ym, ym = yl.length := ⟨_, rfl⟩
        rw [← hym] at HS HPC
        have s6 : (k : Int) < (n : Int) := by omega
        have c0 := (HS.out w4 (Below.refl _ _)).2
        clear cy hin hyl hra hrb hym HPT HTA HTB HLA HLB HTS HD H1C HSZ hg1
        go_wp2_with fail
        go_region_held_law (fun W => Below w4.heap.size w4 W ∧ W.cell? ⟨g, k, none⟩ = some (.slice By ym cy_))
          (first | (with_reducible assumption) | ((with_reducible refine HS.out _ ?_); (first | (with_reducible assumption) | (with_reducible exact Below.refl _ _) | (with_reducible exact (Below.refl _ _).drew) | exact B6.alloc B6.size _ | exact B5.alloc B5.size _ | exact (bj (And.left (by with_reducible assumption)) ‹Below _ _ _›)); done) | fail)
          (first
          | (go_at_call 8; ((with_reducible refine (HPA.out _ (And.left (by with_reducible assumption))).mono ?_); rintro e w5 ⟨A5, c5, rfl, i5, b5⟩; have B5 : Below w4.heap.size w4 w5 := bj (And.left (by with_reducible assumption)) b5; (try have J6 := EntsIn.below i6 b5 (Nat.le_refl _))))
          | (go_at_call 8; ((with_reducible refine (HPB.out _ (And.left (by with_reducible assumption))).mono ?_); rintro e w6 ⟨A6, c6, rfl, i6, b6⟩; have B6 : Below w4.heap.size w4 w6 := bj (And.left (by with_reducible assumption)) b6; (try have J5 := EntsIn.below i5 b6 (Nat.le_refl _))))
          | (go_at_call 8; ((refine (HPC.out _ _ _ B6 J5 i6).mono ?_); rintro e w7 ⟨A7, c7, rfl, i7, b7⟩; have B7 : Below w4.heap.size w4 w7 := bj B6 b7))
          | (go_at_call 8; ((refine (HPC.out _ _ _ B5 i5 J6).mono ?_); rintro e w7 ⟨A7, c7, rfl, i7, b7⟩; have B7 : Below w4.heap.size w4 w7 := bj B5 b7))
          | fail)
        all_goals
          have hrl3 : R.length ≤ 1000000 := by have := HR.out; omega
          have HRL := Lib.hid hrl3
          have X7 := Lib.hid (show EntsIn w7 (.slice Am rl cm) R from (RM.out.below B24.out (Nat.le_refl _)).below B7 (Nat.le_refl _))
          have Y7 := Lib.hid (show EntsIn w7 (.slice A4 rl c4) R from I4.out.below B7 (Nat.le_refl _))
          have Z7 := Lib.hid i7
          have BB := Lib.hid (show Below w.heap.size w w7 from B2.out.trans ((B24.out.trans (B7.mono B24.out.size)).mono B2.out.size))
          have HS1 := Lib.hid (mg_kept X7.out Y7.out HRL.out HRL.out rfl)
          clear b5 b6 b7 i5 i6 i7 B5 B6 B7 hrl3 HPA HPB HPC HS c0
          (try clear J5)
          (try clear J6)
          go_wp2_with fail
          refine HS1.out.mono ?_
          rintro e w8 ⟨rfl, b8⟩
          have HS2 := Lib.hid (mg_kept (X7.out.below b8 (Nat.le_refl _)) (Z7.out.below b8 (Nat.le_refl _)) HRL.out HRL.out rfl)
          have BB8 := Lib.hid (bj BB.out b8)
          have X8 := Lib.hid (X7.out.below b8 (Nat.le_refl _))
          clear b8 HS1 X7 Y7 Z7 BB
          go_wp2_with fail
          refine HS2.out.mono ?_
          rintro e w9 ⟨rfl, b9⟩
          have X9 := Lib.hid (X8.out.below b9 (Nat.le_refl _))
          have BB9 := Lib.hid (bj BB8.out b9)
          have HM9 := Lib.hid (show Calls Try.prog 8 #[.slice (some ⟨w9.heap.size, 0, none⟩) 1 1] (w9.alloc (.cells #[.slice Am rl cm] 25)) (GotE w9 R rl) from
            merge_lit w9 [⟨.slice Am rl cm, R⟩] R 1 rl rfl (by decide) (by show totL [R] ≤ 500000; rw [totL_cons]; have h5 : totL [] = 0 := rfl; have := HR.out; omega) (fun x hx => by rw [List.mem_singleton.1 hx]; exact X9.out) (again HRR.out) HR.out.symm)
          clear b9 HS2 X8 BB8
          go_wp2_with fail
          refine HM9.out.mono ?_
          rintro e w10 ⟨A10, c10, rfl, i10, b10⟩
          have HS3 := Lib.hid (mg_kept i10 (X9.out.below b10 (Nat.le_refl _)) HRL.out HRL.out rfl)
          have BB10 := Lib.hid (bj BB9.out b10)
          clear i10 b10 HM9 X9 BB9
          go_wp2_with fail
          refine HS3.out.mono ?_
          rintro e w11 ⟨rfl, b11⟩
          have BB11 := Lib.hid (bj BB10.out b11)
          clear b11 HS3 BB10
          go_wp2_with fail
          refine (H1.out _).mono ?_
          rintro e w12 ⟨rfl, b12⟩
          go_wp2
          go_ret
          exact ⟨rfl, bj BB11.out b12⟩
theorem walk (w : World) (v : Value) (L : List LstS) (b : Int) (hL : ListsIn w v L) (hok : ∀ x ∈ L, ∀ y ∈ x.l, EntOk y) (wb : (Lit.int .u8 b).wf = true) :
    Calls Try.prog 5 #[v, .int .u8 b] w fun e w' => e = .returned (.bool true) ∧ Below w.heap.size w w' := by
  obtain ⟨k, rfl, hk⟩ := u8_nat wb
  exact walk_ w v L k hL hk
end mergesOrder
end Go.Proofs.Ytmdoafmgakmjkaa

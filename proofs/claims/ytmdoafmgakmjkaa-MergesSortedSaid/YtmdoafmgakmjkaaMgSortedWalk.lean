/- 'MergesSorted': the walk. -/
import Derived.Test.YtmdoafmgakmjkaaMgRise
import Derived.Test.YtmdoafmgakmjkaaMgEx
import Derived.Test.YtmdoafmgakmjkaaEntSortedOwn
import Derived.Test.YtmdoafmgakmjkaaEntAsk
namespace Go.Proofs.Ytmdoafmgakmjkaa
open Go.RowKit Go.Shelf
set_option linter.unusedVariables false
set_option maxRecDepth 100000

namespace mergesSorted
theorem less_at {R : List EntS} (hr : RiseE R) {a p : Nat} {y x : EntS} (ha : R[a]? = some y) (hp : R[p]? = some x) (hap : a ≤ p) : lessE y x = decide (a < p) := by
  rcases Nat.lt_or_ge a p with c | c
  · rw [decide_eq_true c]
    have h1 := (List.getElem?_eq_some_iff.1 ha).1
    have h2 := (List.getElem?_eq_some_iff.1 hp).1
    have := List.pairwise_iff_getElem.1 hr a p h1 h2 c
    rw [List.getElem?_eq_getElem h1] at ha
    rw [List.getElem?_eq_getElem h2] at hp
    rw [Option.some.inj ha, Option.some.inj hp] at this
    exact this
  · obtain rfl : a = p := by omega
    rw [ha] at hp
    rw [Option.some.inj hp, lessE_irrefl, decide_eq_false (Nat.lt_irrefl _)]
theorem search_le {R : List EntS} (hr : RiseE R) {p : Nat} {x : EntS} (hp : R[p]? = some x) : searchE R x.h x.v ≤ p := by
  have h := search_cut hr x.h x.v p x hp
  rcases Nat.lt_or_ge p (searchE R x.h x.v) with c | c
  · rw [decide_eq_true c] at h
    have := of_decide_eq_true h
    omega
  · exact c
set_option maxHeartbeats 8000000 in
theorem walk_ (w : World) (v : Value) (L : List LstS) (hL : ListsIn w v L) (hok : ∀ x ∈ L, ∀ y ∈ x.l, EntOk y) :
    Calls Try.prog 4 #[v] w (MgEnd w) := by
  have H1 := Lib.hid fun W => one_true W
  have HG := Lib.hid (great_any v L w hL)
  have HLIN := Lib.hid hL
  obtain ⟨A, off, cap, hv, -, -⟩ := hL.1.form
  have HOK := Lib.hid hok
  have HRI := Lib.hid (fun hf => rising_any v L w hL hf)
  obtain ⟨n, hnn⟩ : ∃ n, n = L.length := ⟨_, rfl⟩
  have HN := Lib.hid hnn
  unfold RisesEnd at HRI
  rw [← hnn] at hv HRI
  subst hv
  clear hL hnn hok
  go_enter Try.func4, Try.ntmps4
  go_wp2_with fail
  refine HG.out.mono ?_
  rintro e w0 ⟨q, rfl, rfl, hq⟩
  cases q with
  | true =>
    clear hq
    go_wp2_with fail
    refine (H1.out _).mono ?_
    rintro e w1 ⟨rfl, hb1⟩
    go_wp2
    go_ret
    exact ⟨rfl, hb1⟩
  | false =>
    have HF := Lib.hid (hq rfl)
    have hn12 : n ≤ 12 := by rw [HN.out]; exact HF.out.1
    have HRI2 := Lib.hid (HRI.out HF.out)
    clear hq HG HRI
    go_wp2_with fail
    refine HRI2.out.mono ?_
    rintro e w1 ⟨M, A1, c1, rfl, r1, ea1, els1, b1⟩
    have hMl : M.length = n := by rw [rises_length els1, HN.out]
    have htot : totL (els M) ≤ 720 := by
      have h1 := tot_all (L := els M) (b := 60) (fun l hl => by
        rw [els1] at hl
        obtain ⟨l', hl', rfl⟩ := List.mem_map.1 hl
        obtain ⟨x, hx, rfl⟩ := List.mem_map.1 hl'
        exact Nat.le_trans (riseL_length _) (HF.out.2 x hx))
      rw [els_length, hMl] at h1
      omega
    have hrs : ∀ l ∈ els M, RiseE l := fun l hl => by
      rw [els1] at hl
      obtain ⟨l', hl', rfl⟩ := List.mem_map.1 hl
      exact riseL_rise l'
    have HOKM := Lib.hid (show ∀ l ∈ els M, ∀ y ∈ l, EntOk y from fun l hl y hy => by
      rw [els1] at hl
      obtain ⟨l', hl', rfl⟩ := List.mem_map.1 hl
      obtain ⟨x, hx, rfl⟩ := List.mem_map.1 hl'
      exact HOK.out x hx y (riseL_mem y hy))
    have HML60 := Lib.hid (show ∀ x ∈ M, x.l.length ≤ 60 from fun x hx => by
      have hl : x.l ∈ els M := List.mem_map_of_mem hx
      rw [els1] at hl
      obtain ⟨l', hl', he⟩ := List.mem_map.1 hl
      obtain ⟨z, hz, rfl⟩ := List.mem_map.1 hl'
      rw [← he]
      exact Nat.le_trans (riseL_length _) (HF.out.2 z hz))
    have HMG := Lib.hid (merge_any _ M w1 (LRow.in_ r1 ea1.each) (by omega) (by omega))
    have HRR := Lib.hid (merge_rise hrs)
    have HMEM := Lib.hid (show ∀ x, x ∈ mergeE (els M) ↔ ∃ l ∈ els M, x ∈ l from fun x => merge_mem)
    have HRL := Lib.hid (Nat.le_trans (merge_length (els M)) htot)
    have HROW := Lib.hid r1
    have HEA := Lib.hid ea1
    have HB1 := Lib.hid b1
    have HML := Lib.hid hMl
    clear HRI2 r1 ea1 els1 b1 hMl htot hrs
    generalize mergeE (els M) = R at *
    obtain ⟨rl, hrl⟩ : ∃ rl, rl = R.length := ⟨_, rfl⟩
    have HR := Lib.hid hrl
    have hrl2 : rl ≤ 720 := by rw [hrl]; exact HRL.out
    unfold EntsOut at HMG
    rw [← hrl] at HMG
    clear hrl HRL
    go_wp2_with fail
    refine HMG.out.mono ?_
    rintro e w2 ⟨Am, cm, rfl, rm, b2⟩
    have RM := Lib.hid (show EntsIn w2 (.slice Am rl cm) R by rw [HR.out] at rm ⊢; exact EntRow.in_ rm)
    have hso := sorted_any _ R w2 RM.out (by have := HR.out; omega)
    rw [HRR.out.sorted] at hso
    have HSO := Lib.hid hso
    have B2 := Lib.hid b2
    clear rm b2 hso HMG
    go_wp2_with fail
    refine HSO.out.mono ?_
    rintro e w3 ⟨rfl, b3⟩
    have B3 := Lib.hid (HB1.out.trans ((bj B2.out b3).mono HB1.out.size))
    have RM3 := Lib.hid (RM.out.below b3 (Nat.le_refl _))
    have ROW3 := Lib.hid (LRow.below HROW.out (bj B2.out b3) (Nat.le_refl _))
    have EA3 := Lib.hid (Each.below HEA.out.each (bj B2.out b3) (Nat.le_refl _))
    clear b3 HSO RM B2 HROW HEA HB1
    go_wp2
    go_loopg [5] n (fun g i wx => ∃ (k : Nat), k + g = n ∧ i = .int .i64 k ∧ Below w3.heap.size w3 wx)
    case atStart => exact ⟨0, by omega, rfl, Below.refl _ _⟩
    case round =>
      obtain ⟨i, hig, rfl, hb⟩ := hrel
      obtain ⟨wi, rfl⟩ : ∃ wi, wi = wr := ⟨_, rfl⟩
      have HB := Lib.hid hb
      clear hb
      cases gk with
      | zero =>
        obtain rfl : i = n := by omega
        have s1 : ¬ (i : Int) < (i : Int) := by omega
        go_wp2
        go_loopg [8] rl (fun g s8 wx => ∃ (j : Nat), j + g = rl ∧ s8 = .int .i64 j ∧ Below w3.heap.size w3 wx)
        case atStart => exact ⟨0, by omega, rfl, HB.out⟩
        case round =>
          clear HB
          obtain ⟨j, hjg, rfl, hb⟩ := hrel
          obtain ⟨wj, rfl⟩ : ∃ wj, wj = wr := ⟨_, rfl⟩
          have HBJ := Lib.hid hb
          clear hb
          cases gk with
          | zero =>
            obtain rfl : j = rl := by omega
            have s2 : ¬ (j : Int) < (j : Int) := by omega
            have HBF := Lib.hid (show Below w.heap.size w wj from B3.out.trans (HBJ.out.mono B3.out.size))
            go_wp2_with fail
            refine (H1.out _).mono ?_
            rintro e w6 ⟨rfl, hb6⟩
            go_wp2
            go_ret
            exact ⟨rfl, bj HBF.out hb6⟩
          | succ gj =>
            have hjr : j < rl := by omega
            have s2 : (j : Int) < (rl : Int) := by omega
            obtain ⟨x, hx⟩ : ∃ x, R[j]? = some x := ⟨_, List.getElem?_eq_getElem (by rw [← HR.out]; exact hjr)⟩
            have HX := Lib.hid (show ∃ (i0 : Nat) (y : LstS), i0 < i ∧ M[i0]? = some y ∧ x ∈ y.l by
              obtain ⟨l, hl, hxl⟩ := (HMEM.out x).1 (List.mem_of_getElem? hx)
              obtain ⟨y, hy, rfl⟩ := List.mem_map.1 hl
              obtain ⟨i0, hi0⟩ := List.getElem?_of_mem hy
              exact ⟨i0, y, by rw [← HML.out]; exact (List.getElem?_eq_some_iff.1 hi0).1, hi0, hxl⟩)
            obtain ⟨bm, om, rfl, -, hbm, e0, e1, e2⟩ := ent_cell RM3.out hx
            have HCX := Lib.hid (show ∀ W, Below w3.heap.size w3 W → W.cell? ⟨bm, om + j * 3, none⟩ = some (.int .u64 (x.h : Nat)) ∧ W.cell? ⟨bm, om + j * 3 + 1, none⟩ = some (.int .i64 x.v) ∧ W.cell? ⟨bm, om + j * 3 + 2, none⟩ = some (.int .i64 x.p) from fun W hW =>
              ⟨(hW.cell (p := ⟨bm, om + j * 3, none⟩) hbm).trans e0, (hW.cell (p := ⟨bm, om + j * 3 + 1, none⟩) hbm).trans e1, (hW.cell (p := ⟨bm, om + j * 3 + 2, none⟩) hbm).trans e2⟩)
            clear hx e0 e1 e2 hbm
            go_wp2
            go_loopg [9, 10] i (fun g5 s9 s10 wx => ∃ (a : Nat) (q : Bool), a + g5 = i ∧ s10 = .int .i64 a ∧ s9 = .bool q ∧ (q = false → ∀ (i' : Nat) (y : LstS), i' < a → M[i']? = some y → x ∉ y.l) ∧ Below w3.heap.size w3 wx)
            case atStart => exact ⟨0, false, by omega, rfl, rfl, fun _ i' y h => absurd h (Nat.not_lt_zero _), HBJ.out⟩
            case round =>
              obtain ⟨a, q, hag, rfl, rfl, hq, hb⟩ := hrel
              obtain ⟨wa, rfl⟩ : ∃ wa, wa = wr := ⟨_, rfl⟩
              have HBA := Lib.hid hb
              have HQ := Lib.hid hq
              clear hb hq HBJ
              cases gk with
              | zero =>
                obtain rfl : a = i := by omega
                cases q with
                | false =>
                  exfalso
                  obtain ⟨i0, y, h1, h2, h3⟩ := HX.out
                  exact HQ.out rfl i0 y h1 h2 h3
                | true =>
                  clear HQ
                  go_wp2
                  go_roundg gj
                  case measure => omega
                  case rel => exact ⟨j + 1, by omega, by go_num, HBA.out⟩
              | succ ga =>
                have hai : a < i := by omega
                have s3 : (a : Int) < (i : Int) := by omega
                cases q with
                | true =>
                  clear HQ
                  go_wp2
                  go_roundg gj
                  case measure => omega
                  case rel => exact ⟨j + 1, by omega, by go_num, HBA.out⟩
                | false =>
                  have HQ2 := Lib.hid (HQ.out rfl)
                  clear HQ
                  obtain ⟨y, hy⟩ : ∃ y, M[a]? = some y := ⟨_, List.getElem?_eq_getElem (by rw [HML.out]; exact hai)⟩
                  obtain ⟨g, rfl, hg1, hg2, -⟩ := LRow.some_ ROW3.out (by rw [HML.out]; omega)
                  obtain ⟨cy, -⟩ := LRow.cell ROW3.out HML.out.symm hy
                  have hin := EA3.out y (List.mem_of_getElem? hy)
                  have hml := HML60.out y (List.mem_of_getElem? hy)
                  have HY := Lib.hid hy
                  clear hy
                  obtain ⟨yv, yl⟩ := y
                  simp only at cy hin hml
                  obtain ⟨B, o2, c2, rfl, -, hc2⟩ := hin.form
                  have HC2 := Lib.hid hc2
                  obtain ⟨m, hm⟩ : ∃ m, m = yl.length := ⟨_, rfl⟩
                  have HM := Lib.hid hm
                  rw [← hm] at cy hml HY
                  have HCY := Lib.hid (show ∀ W, Below w3.heap.size w3 W → W.cell? ⟨g, a, none⟩ = some (.slice B m c2) from fun W hW => (hW.cell (p := ⟨g, a, none⟩) hg2).trans cy)
                  clear hm hin hc2 cy
                  go_wp2
                  go_loopg [9, 11] m (fun g6 s9 s11 wx => ∃ (k : Nat) (q : Bool), k + g6 = m ∧ s11 = .int .i64 k ∧ s9 = .bool q ∧ (q = false → ∀ (k' : Nat) (z : EntS), k' < k → yl[k']? = some z → z ≠ x) ∧ Below w3.heap.size w3 wx)
                  case atStart => exact ⟨0, false, by omega, rfl, rfl, fun _ k' z h => absurd h (Nat.not_lt_zero _), HBA.out⟩
                  case round =>
                    obtain ⟨k, q, hkg, rfl, rfl, hq, hb⟩ := hrel
                    have cy := HCY.out wr hb
                    obtain ⟨f0, f1, f2⟩ := HCX.out wr hb
                    have HBK := Lib.hid hb
                    have HQ := Lib.hid hq
                    clear hq HBA
                    cases gk with
                    | zero =>
                      obtain rfl : k = m := by omega
                      have s4 : ¬ (k : Int) < (k : Int) := by omega
                      clear hb
                      go_wp2
                      go_roundg ga
                      case measure => omega
                      case rel => exact ⟨a + 1, q, by omega, by go_num, rfl, fun hqf i' y hi' hy' => by
                        rcases Nat.lt_or_ge i' a with c | c
                        · exact HQ2.out i' y c hy'
                        · obtain rfl : i' = a := by omega
                          rw [HY.out] at hy'
                          rw [← Option.some.inj hy']
                          intro hx
                          obtain ⟨k', hk'⟩ := List.getElem?_of_mem hx
                          exact HQ.out hqf k' x (by have := (List.getElem?_eq_some_iff.1 hk').1; rw [← HM.out] at this; exact this) hk' rfl, HBK.out⟩
                    | succ gl =>
                      have hkm : k < m := by omega
                      have s4 : (k : Int) < (m : Int) := by omega
                      obtain ⟨z, hz⟩ : ∃ z, yl[k]? = some z := ⟨_, List.getElem?_eq_getElem (by rw [← HM.out]; exact hkm)⟩
                      obtain ⟨b2, rfl, hbk2, d0, d1, d2⟩ := HC2.out k z hz
                      have g0 := (hb.cell (p := ⟨b2, o2 + k * 3, none⟩) hbk2).trans d0
                      have g1 := (hb.cell (p := ⟨b2, o2 + k * 3 + 1, none⟩) hbk2).trans d1
                      have g2 := (hb.cell (p := ⟨b2, o2 + k * 3 + 2, none⟩) hbk2).trans d2
                      have HZ := Lib.hid hz
                      clear d0 d1 d2 hz hb
                      cases q with
                      | true =>
                        clear HQ
                        go_wp2_with fail
                        go_quiet (fail)
                        go_wp2
                        go_roundg gl
                        case measure => omega
                        case rel => exact ⟨k + 1, true, by omega, by go_num, rfl, fun h => (by cases h), below_drewN HBK.out _⟩
                      | false =>
                        have heq := fun W => ent_eql z x W
                        have HQ3 := Lib.hid (HQ.out rfl)
                        clear HQ
                        obtain ⟨q2, hq2⟩ : ∃ q2, q2 = decide (z = x) := ⟨_, rfl⟩
                        have HQQ := Lib.hid hq2
                        rw [← hq2] at heq
                        clear hq2
                        have HNEXT := Lib.hid (show q2 = false → ∀ (k' : Nat) (z' : EntS), k' < k + 1 → yl[k']? = some z' → z' ≠ x from fun hqf k' z' hk' hz' => by
                          rcases Nat.lt_or_ge k' k with c | c
                          · exact HQ3.out k' z' c hz'
                          · obtain rfl : k' = k := by omega
                            rw [HZ.out] at hz'
                            rw [← Option.some.inj hz']
                            rw [HQQ.out] at hqf
                            exact of_decide_eq_false hqf)
                        clear HQQ HQ3 HZ
                        obtain ⟨xh, xv, xp⟩ := x
                        obtain ⟨zh, zv, zp⟩ := z
                        simp only at f0 f1 f2 g0 g1 g2 heq
                        go_wp2_with fail
                        go_quiet (fail)
                        go_wp2
                        go_roundg gl
                        case measure => omega
                        case rel => exact ⟨k + 1, q2, by omega, by go_num, rfl, HNEXT.out, below_drewN HBK.out _⟩
      | succ gi =>
        have hin_ : i < n := by omega
        have s1 : (i : Int) < (n : Int) := by omega
        obtain ⟨y, hy⟩ : ∃ y, M[i]? = some y := ⟨_, List.getElem?_eq_getElem (by rw [HML.out]; exact hin_)⟩
        obtain ⟨g, rfl, hg1, hg2, -⟩ := LRow.some_ ROW3.out (by rw [HML.out]; omega)
        obtain ⟨cy, -⟩ := LRow.cell ROW3.out HML.out.symm hy
        have hin := EA3.out y (List.mem_of_getElem? hy)
        have hml := HML60.out y (List.mem_of_getElem? hy)
        have HYM := Lib.hid (show y.l ∈ els M from List.mem_map_of_mem (List.mem_of_getElem? hy))
        clear hy
        obtain ⟨yv, yl⟩ := y
        simp only at cy hin hml HYM
        obtain ⟨B, o2, c2, rfl, -, hc2⟩ := hin.form
        have HC2 := Lib.hid hc2
        obtain ⟨m, hm⟩ : ∃ m, m = yl.length := ⟨_, rfl⟩
        have HM := Lib.hid hm
        rw [← hm] at cy hml
        have HCY := Lib.hid (show ∀ W, Below w3.heap.size w3 W → W.cell? ⟨g, i, none⟩ = some (.slice B m c2) from fun W hW => (hW.cell (p := ⟨g, i, none⟩) hg2).trans cy)
        clear hm hin hc2 cy
        go_wp2
        go_loopg [6] m (fun g2 s6 wx => ∃ (k : Nat), k + g2 = m ∧ s6 = .int .i64 k ∧ Below w3.heap.size w3 wx)
        case atStart => exact ⟨0, by omega, rfl, HB.out⟩
        case round =>
          obtain ⟨k, hkg, rfl, hb⟩ := hrel
          obtain ⟨wk, rfl⟩ : ∃ wk, wk = wr := ⟨_, rfl⟩
          have cy := HCY.out wk hb
          have HBK := Lib.hid hb
          clear hb
          cases gk with
          | zero =>
            obtain rfl : k = m := by omega
            have s2 : ¬ (k : Int) < (k : Int) := by omega
            go_wp2
            go_roundg gi
            case measure => omega
            case rel => exact ⟨i + 1, by omega, by go_num, HBK.out⟩
          | succ gj =>
            have hkm : k < m := by omega
            have s2 : (k : Int) < (m : Int) := by omega
            obtain ⟨x, hx⟩ : ∃ x, yl[k]? = some x := ⟨_, List.getElem?_eq_getElem (by rw [← HM.out]; exact hkm)⟩
            have hxR : x ∈ R := (HMEM.out x).2 ⟨yl, HYM.out, List.mem_of_getElem? hx⟩
            obtain ⟨p, hp⟩ := List.getElem?_of_mem hxR
            obtain ⟨b2, rfl, hbk2, d0, d1, d2⟩ := HC2.out k x hx
            have f0 := (HBK.out.cell (p := ⟨b2, o2 + k * 3, none⟩) hbk2).trans d0
            have f1 := (HBK.out.cell (p := ⟨b2, o2 + k * 3 + 1, none⟩) hbk2).trans d1
            have f2 := (HBK.out.cell (p := ⟨b2, o2 + k * 3 + 2, none⟩) hbk2).trans d2
            have HCX := Lib.hid (show ∀ W, Below w3.heap.size w3 W → W.cell? ⟨b2, o2 + k * 3, none⟩ = some (.int .u64 (x.h : Nat)) ∧ W.cell? ⟨b2, o2 + k * 3 + 1, none⟩ = some (.int .i64 x.v) ∧ W.cell? ⟨b2, o2 + k * 3 + 2, none⟩ = some (.int .i64 x.p) from fun W hW =>
              ⟨(hW.cell (p := ⟨b2, o2 + k * 3, none⟩) hbk2).trans d0, (hW.cell (p := ⟨b2, o2 + k * 3 + 1, none⟩) hbk2).trans d1, (hW.cell (p := ⟨b2, o2 + k * 3 + 2, none⟩) hbk2).trans d2⟩)
            have hsl := search_le HRR.out hp
            have hpl : p < rl := by rw [HR.out]; exact (List.getElem?_eq_some_iff.1 hp).1
            have HP := Lib.hid hp
            have HSE := Lib.hid (show ∀ W, Below wk.heap.size wk W → Calls Try.prog 13 #[.slice Am rl cm, .int .u64 (x.h : Nat), .int .i64 x.v] W fun e w' => e = .returned (.int .i64 (searchE R x.h x.v : Nat)) ∧ Below W.heap.size W w' from fun W hW =>
              search_any _ R x.h x.v W ((RM3.out.below HBK.out (Nat.le_refl _)).below (hW.mono (Nat.le_refl _)) (Nat.le_refl _)) (by have := HR.out; omega) (fun z hz => by
                obtain ⟨l, hl, hzl⟩ := (HMEM.out z).1 hz
                exact HOKM.out l hl z hzl) HRR.out)
            generalize searchE R x.h x.v = K at *
            have HLE := Lib.hid (show ∀ (a : Nat) (y : EntS), a ≤ p → R[a]? = some y → lessE y x = decide (a < p) from fun a y h1 h2 => less_at HRR.out h2 hp h1)
            clear d0 d1 d2 hx hxR hp
            have hbl : b2 < wk.heap.size := Nat.lt_of_lt_of_le hbk2 HBK.out.size
            have hgl : g < wk.heap.size := Nat.lt_of_lt_of_le hg2 HBK.out.size
            obtain ⟨xh, xv, xp⟩ := x
            simp only at f0 f1 f2 HCX HSE
            have HS : Hid (∀ W, Below wk.heap.size wk W → Below wk.heap.size wk W ∧ W.cell? ⟨g, i, none⟩ = some (.slice (some ⟨b2, o2, none⟩) m c2) ∧ W.cell? ⟨b2, o2 + k * 3, none⟩ = some (.int .u64 (xh : Nat)) ∧ W.cell? ⟨b2, o2 + k * 3 + 1, none⟩ = some (.int .i64 xv)) := Lib.hid fun W hB =>
              ⟨hB, (hB.cell (p := ⟨g, i, none⟩) hgl).trans cy, (hB.cell (p := ⟨b2, o2 + k * 3, none⟩) hbl).trans f0, (hB.cell (p := ⟨b2, o2 + k * 3 + 1, none⟩) hbl).trans f1⟩
            go_wp2_with fail
            go_region_held3 (fun W => Below wk.heap.size wk W ∧ W.cell? ⟨g, i, none⟩ = some (.slice (some ⟨b2, o2, none⟩) m c2) ∧ W.cell? ⟨b2, o2 + k * 3, none⟩ = some (.int .u64 (xh : Nat)) ∧ W.cell? ⟨b2, o2 + k * 3 + 1, none⟩ = some (.int .i64 xv))
              (first | (with_reducible assumption) | ((with_reducible refine HS.out _ ?_); (first | (with_reducible assumption) | (with_reducible exact Below.refl _ _) | (with_reducible exact (Below.refl _ _).drew) | exact (bj (And.left (by with_reducible assumption)) ‹Below _ _ _›)); done) | fail)
              (first
              | (go_at_call 13; ((with_reducible refine (HSE.out _ (And.left (by with_reducible assumption))).mono ?_); rintro e w4 ⟨rfl, hb4⟩; have hB4 : Below wk.heap.size wk w4 := bj (And.left (by with_reducible assumption)) hb4))
              | fail)
            all_goals
              have HB4 := Lib.hid (HBK.out.trans (hB4.mono HBK.out.size))
              clear hB4 f0 f1 f2 cy HS HSE
              go_wp2
              go_loopg [7] (p - K) (fun g3 s7 wx => ∃ (a : Nat), a + g3 = p ∧ s7 = .int .i64 a ∧ Below w3.heap.size w3 wx)
              case atStart => exact ⟨K, by omega, rfl, HB4.out⟩
              case round =>
                clear hsl HB4
                obtain ⟨a, hag, rfl, hb⟩ := hrel
                have HBA := Lib.hid hb
                have cy := HCY.out wr hb
                obtain ⟨f0, f1, f2⟩ := HCX.out wr hb
                obtain ⟨z, hz⟩ : ∃ z, R[a]? = some z := ⟨_, List.getElem?_eq_getElem (by rw [← HR.out]; omega)⟩
                obtain ⟨bm, om, rfl, -, hbm, e0, e1, e2⟩ := ent_cell RM3.out hz
                have g0 := (hb.cell (p := ⟨bm, om + a * 3, none⟩) hbm).trans e0
                have g1 := (hb.cell (p := ⟨bm, om + a * 3 + 1, none⟩) hbm).trans e1
                have g2 := (hb.cell (p := ⟨bm, om + a * 3 + 2, none⟩) hbm).trans e2
                have hle := HLE.out a z (by omega) hz
                have hgw : g < wr.heap.size := Nat.lt_of_lt_of_le hg2 hb.size
                have hbw : b2 < wr.heap.size := Nat.lt_of_lt_of_le hbk2 hb.size
                have hmw : bm < wr.heap.size := Nat.lt_of_lt_of_le hbm hb.size
                have hal : a < rl := by omega
                have s3 : (a : Int) < (rl : Int) := by omega
                have s4 : ¬ (rl : Int) ≤ (a : Int) := by omega
                have s5 : decide ((rl : Int) ≤ (a : Int)) = false := decide_eq_false (by omega)
                have s6 : decide (rl ≤ a) = false := decide_eq_false (by omega)
                have s7 : decide (a < rl) = true := decide_eq_true hal
                have s8 : decide ((a : Int) < (rl : Int)) = true := decide_eq_true s3
                have HL0 := fun W => eless_any z ⟨xh, xv, xp⟩ W
                have HZ := Lib.hid hz
                clear e0 e1 e2 hb hz
                rw [hle] at HL0
                obtain ⟨zh, zv, zp⟩ := z
                simp only at g0 g1 g2
                have HS : Hid (∀ W, Below wr.heap.size wr W → Below wr.heap.size wr W ∧ W.cell? ⟨g, i, none⟩ = some (.slice (some ⟨b2, o2, none⟩) m c2) ∧ W.cell? ⟨b2, o2 + k * 3, none⟩ = some (.int .u64 (xh : Nat)) ∧ W.cell? ⟨b2, o2 + k * 3 + 1, none⟩ = some (.int .i64 xv) ∧ W.cell? ⟨b2, o2 + k * 3 + 2, none⟩ = some (.int .i64 xp) ∧
                  W.cell? ⟨bm, om + a * 3, none⟩ = some (.int .u64 (zh : Nat)) ∧ W.cell? ⟨bm, om + a * 3 + 1, none⟩ = some (.int .i64 zv) ∧ W.cell? ⟨bm, om + a * 3 + 2, none⟩ = some (.int .i64 zp)) := Lib.hid fun W hB =>
                  ⟨hB, (hB.cell (p := ⟨g, i, none⟩) hgw).trans cy, (hB.cell (p := ⟨b2, o2 + k * 3, none⟩) hbw).trans f0, (hB.cell (p := ⟨b2, o2 + k * 3 + 1, none⟩) hbw).trans f1, (hB.cell (p := ⟨b2, o2 + k * 3 + 2, none⟩) hbw).trans f2, (hB.cell (p := ⟨bm, om + a * 3, none⟩) hmw).trans g0, (hB.cell (p := ⟨bm, om + a * 3 + 1, none⟩) hmw).trans g1, (hB.cell (p := ⟨bm, om + a * 3 + 2, none⟩) hmw).trans g2⟩
                cases gk with
                | succ ga =>
                  rw [decide_eq_true (show a < p by omega)] at HL0
                  have HL := Lib.hid HL0
                  clear HL0 hle HZ
                  go_wp2_with fail
                  go_region_held3 (fun W => Below wr.heap.size wr W ∧ W.cell? ⟨g, i, none⟩ = some (.slice (some ⟨b2, o2, none⟩) m c2) ∧ W.cell? ⟨b2, o2 + k * 3, none⟩ = some (.int .u64 (xh : Nat)) ∧ W.cell? ⟨b2, o2 + k * 3 + 1, none⟩ = some (.int .i64 xv) ∧ W.cell? ⟨b2, o2 + k * 3 + 2, none⟩ = some (.int .i64 xp) ∧
                      W.cell? ⟨bm, om + a * 3, none⟩ = some (.int .u64 (zh : Nat)) ∧ W.cell? ⟨bm, om + a * 3 + 1, none⟩ = some (.int .i64 zv) ∧ W.cell? ⟨bm, om + a * 3 + 2, none⟩ = some (.int .i64 zp))
                    (first | (with_reducible assumption) | ((with_reducible refine HS.out _ ?_); (first | (with_reducible assumption) | (with_reducible exact Below.refl _ _) | (with_reducible exact (Below.refl _ _).drew) | exact (bj (And.left (by with_reducible assumption)) ‹Below _ _ _›)); done) | fail)
                    (first
                    | (go_at_call 14; ((with_reducible refine (HL.out _).mono ?_); rintro e w5 ⟨rfl, hb5⟩; have hB5 : Below wr.heap.size wr w5 := bj (And.left (by with_reducible assumption)) hb5))
                    | fail)
                  all_goals
                    go_wp2
                    go_roundg ga
                    case measure => omega
                    case rel => exact ⟨a + 1, by omega, by go_num, HBA.out.trans (hB5.mono HBA.out.size)⟩
                | zero =>
                  obtain rfl : a = p := by omega
                  rw [decide_eq_false (Nat.lt_irrefl _)] at HL0
                  have HL := Lib.hid HL0
                  have hzx := HZ.out
                  rw [HP.out] at hzx
                  have hne := fun W => ent_neq ⟨zh, zv, zp⟩ ⟨xh, xv, xp⟩ W
                  rw [decide_eq_true (Option.some.inj hzx).symm] at hne
                  have HNE := Lib.hid hne
                  clear HL0 hle HZ hzx hne
                  go_wp2_with fail
                  go_region_held3 (fun W => Below wr.heap.size wr W ∧ W.cell? ⟨g, i, none⟩ = some (.slice (some ⟨b2, o2, none⟩) m c2) ∧ W.cell? ⟨b2, o2 + k * 3, none⟩ = some (.int .u64 (xh : Nat)) ∧ W.cell? ⟨b2, o2 + k * 3 + 1, none⟩ = some (.int .i64 xv) ∧ W.cell? ⟨b2, o2 + k * 3 + 2, none⟩ = some (.int .i64 xp) ∧
                      W.cell? ⟨bm, om + a * 3, none⟩ = some (.int .u64 (zh : Nat)) ∧ W.cell? ⟨bm, om + a * 3 + 1, none⟩ = some (.int .i64 zv) ∧ W.cell? ⟨bm, om + a * 3 + 2, none⟩ = some (.int .i64 zp))
                    (first | (with_reducible assumption) | ((with_reducible refine HS.out _ ?_); (first | (with_reducible assumption) | (with_reducible exact Below.refl _ _) | (with_reducible exact (Below.refl _ _).drew) | exact (bj (And.left (by with_reducible assumption)) ‹Below _ _ _›)); done) | fail)
                    (first
                    | (go_at_call 14; ((with_reducible refine (HL.out _).mono ?_); rintro e w5 ⟨rfl, hb5⟩; have hB5 : Below wr.heap.size wr w5 := bj (And.left (by with_reducible assumption)) hb5))
                    | fail)
                  all_goals
                    have HB5 := Lib.hid (HBA.out.trans (hB5.mono HBA.out.size))
                    obtain ⟨-, cy5, u0, u1, u2, v0, v1, v2⟩ := HS.out _ hB5
                    have hne := HNE.out
                    clear hB5 cy f0 f1 f2 g0 g1 g2
                    go_wp2_with fail
                    go_quiet (fail)
                    go_wp2
                    go_roundg gj
                    case measure => omega
                    case rel => exact ⟨k + 1, by omega, by go_num, below_drewN HB5.out _⟩
theorem walk (w : World) (v : Value) (L : List LstS) (hL : ListsIn w v L) (hok : ∀ x ∈ L, ∀ y ∈ x.l, EntOk y) :
    Calls Try.prog 4 #[v] w fun e w' => e = .returned (.bool true) ∧ Below w.heap.size w w' := walk_ w v L hL hok
end mergesSorted
end Go.Proofs.Ytmdoafmgakmjkaa

/- The walk of EntriesAsk. -/
import Derived.Test.YtjbhahcogdpkpaaEntAskHelp
import Derived.Deep.CutBlock
import Derived.Deep.RegionHeldLaw
namespace Go.Proofs.Ytjbhahcogdpkpaa.EnAsk
open Go.RowKit Go.Shelf
set_option linter.unusedVariables false
attribute [local go_sem ↓] Go.wp_at_zero Go.wp_at_succ

set_option maxHeartbeats 8000000 in
set_option maxRecDepth 100000 in
theorem main (v : Value) (l : List EntS) (one : EntS) (b : Int) (w : World) (hl : EntsIn w v l) (hn : l.length ≤ 100) (hok : ∀ x ∈ l, EntOk x) (h1 : EntOk one) :
    Calls Try.prog 4 #[v, entB one, .int .i64 b] w fun e w' => e = .returned (.bool true) ∧ Below w.heap.size w w' := by
  have hbw := (Below.refl w.heap.size w).alloc (Nat.le_refl _) (.cells #[.int .u64 (one.h : Nat), .int .i64 one.v, .int .i64 one.p] 24)
  have E1 : EntAt (w.alloc (.cells #[.int .u64 (one.h : Nat), .int .i64 one.v, .int .i64 one.p] 24)) w.heap.size one.h one.v one.p := Blok.new _ _ _
  have hl1 := hl.below hbw (Nat.le_refl _)
  obtain ⟨w1, hw1⟩ : ∃ w1, w.alloc (.cells #[.int .u64 (one.h : Nat), .int .i64 one.v, .int .i64 one.p] 24) = w1 := ⟨_, rfl⟩
  rw [hw1] at hbw E1 hl1
  have HSO := Lib.hid (sortr_any v l w1 hl1 (by omega))
  obtain ⟨A0, o0, c0, rfl, -, hcl⟩ := hl1.form
  have hM1 := sort_rise l
  have hM2 := sort_length l
  have hM3 := fun y hy => hok y (sort_mem (l := l) y hy)
  have HNIL := Lib.hid (show l = [] → sortE l = [] from fun h => by rw [h]; rfl)
  have HL := Lib.hid hl1
  have HOK := Lib.hid hok
  have H1 := Lib.hid h1
  have HBW := Lib.hid hbw
  have HCL := Lib.hid hcl
  have HM1 := Lib.hid hM1
  have HM2 := Lib.hid hM2
  have HM3 := Lib.hid hM3
  generalize sortE l = M at *
  obtain ⟨n, hnn⟩ : ∃ n, n = l.length := ⟨_, rfl⟩
  have HN := Lib.hid hnn
  rw [← hnn] at hn HSO HL HM2 ⊢
  have HONE := Lib.hid E1
  have HW1 := Lib.hid hw1
  clear hl hl1 hok h1 hcl hM1 hM2 hM3 hnn E1 hbw
  go_enter Try.func4, Try.ntmps4
  go_wp2_with fail
  refine HSO.out.mono ?_
  rintro e w2 ⟨A2, c2, rfl, hrow2, hb2⟩
  have hin2 := EntRow.in_ hrow2
  obtain ⟨A3, c3, w3, r1, r2, r3, r4⟩ := ents_append (EntRow.nil w2 w2.heap.size) hin2 (by have := HM2.out; simp; omega) (Nat.le_refl _) 31
  have hb3 : Below w2.heap.size w2 w3 := grown_below r3 (Nat.le_refl _) (fun k hk => by cases hk)
  rw [List.nil_append] at r2
  have hz : ([] : List EntS).length + M.length = M.length := by simp
  rw [hz] at r1 r2
  have hx3 := EntAt.facts (Blok.below HONE.out (bj hb2 hb3))
  obtain ⟨x0, x1, x2, -, -, -⟩ := hx3
  have HR1 := Lib.hid r1
  have HR2 := Lib.hid r2
  have HB2 := Lib.hid hb2
  have HB3 := Lib.hid hb3
  have HIN2 := Lib.hid hin2
  clear r1 r2 r3 r4 hz hrow2 hin2 hb2 hb3 hw1
  obtain ⟨mm, hmm⟩ : ∃ mm, M.length = mm := ⟨_, rfl⟩
  have HML : Hid (M.length ≤ 100) := Lib.hid (Nat.le_trans HM2.out hn)
  rw [hmm] at HR1 HR2 HIN2 ⊢
  clear hmm
  have HH1 := Lib.hid (hash_one w3 one.h)
  have hb4 : Below w3.heap.size w3 (w3.alloc (.cells #[.int .u64 (one.h : Nat)] 22)) := (Below.refl _ _).alloc (Nat.le_refl _) _
  have HB4 := Lib.hid hb4
  clear hb4
  go_upto_if 30 with (first | (at_builtin; refine wpList_append_two rfl _ _ rfl rfl rfl HR1.out ?_) | fail)
  obtain ⟨w4, hw4⟩ : ∃ w4, w3.alloc (.cells #[.int .u64 (one.h : Nat)] 22) = w4 := ⟨_, rfl⟩
  rw [hw4] at HH1 HB4 ⊢
  go_cut [9] from 28 to 44 (fun hv wx => (∃ H, HashIn wx hv H ∧ H.length ≤ 3 ∧ ∀ x ∈ H, x < 18446744073709551616) ∧ Below w3.heap.size w3 wx)
  case first =>
    by_cases h0 : n = 0
    · subst h0
      go_wp2_with fail
      go_meet
      exact ⟨⟨[one.h], hash_row HH1.out, Nat.le_of_ble_eq_true rfl, fun x hx => by rw [List.mem_singleton.1 hx]; exact H1.out.h⟩, HB4.out⟩
    · obtain ⟨k, hk⟩ : ∃ k, n = k + 1 := ⟨n - 1, by omega⟩
      have p0 : (0 : Int) < (n : Int) := by omega
      have q1 : (n : Int) - 1 = (k : Int) := by omega
      have q3 : (k : Int) < (n : Int) := by omega
      have q4 : (0 : Int) ≤ (k : Int) := by omega
      have q5 : IntKind.i64.wrap ((k : Nat) : Int) = (k : Nat) := IntWalk.i64_in _ ⟨by omega, by omega⟩
      obtain ⟨xa, hxa⟩ : ∃ x, l[0]? = some x := ⟨_, List.getElem?_eq_getElem (by rw [← HN.out]; omega)⟩
      obtain ⟨xb, hxb⟩ : ∃ x, l[k]? = some x := ⟨_, List.getElem?_eq_getElem (by rw [← HN.out]; omega)⟩
      obtain ⟨ba, rfl, hba, d0, -, -⟩ := HCL.out 0 xa hxa
      obtain ⟨ba', e', -, g0, -, -⟩ := HCL.out k xb hxb
      obtain rfl : ba = ba' := by simpa using e'
      have hb14 : Below w1.heap.size w1 w3 := bj HB2.out HB3.out
      have HW : Hid (xa.h < 18446744073709551616 ∧ xb.h < 18446744073709551616) := Lib.hid ⟨(HOK.out xa (List.mem_of_getElem? hxa)).h, (HOK.out xb (List.mem_of_getElem? hxb)).h⟩
      have HS : Hid (∀ W, Below w3.heap.size w3 W → Below w3.heap.size w3 W ∧ W.cell? ⟨ba, o0, none⟩ = some (.int .u64 (xa.h : Nat)) ∧ W.cell? ⟨ba, o0 + k * 3, none⟩ = some (.int .u64 (xb.h : Nat))) := Lib.hid fun W hW =>
        ⟨hW, ((bj hb14 hW).cell (p := ⟨ba, o0, none⟩) hba).trans (by rw [Nat.zero_mul, Nat.add_zero] at d0; exact d0), ((bj hb14 hW).cell (p := ⟨ba, o0 + k * 3, none⟩) hba).trans g0⟩
      have HK := Lib.hid fun W (hW : Below w4.heap.size w4 W) => own_keep HH1.out hW
      have HBS := Lib.hid fun W (hW : Below w4.heap.size w4 W) => (show w3.heap.size ≤ W.heap.size from Nat.le_trans HB4.out.size hW.size)
      have hb34 := HB4.out
      obtain ⟨-, s1, s2⟩ := HS.out w4 hb34
      have HK1 := Lib.hid hk
      clear hxa hxb d0 g0 e' hba hb14 hk h0 x0 x1 x2 HSO HR1 HR2 HIN2
      go_wp2_with fail
      go_region_held_law (fun W => Below w3.heap.size w3 W ∧ W.cell? ⟨ba, o0, none⟩ = some (.int .u64 (xa.h : Nat)) ∧ W.cell? ⟨ba, o0 + k * 3, none⟩ = some (.int .u64 (xb.h : Nat)))
        (first | (with_reducible assumption) | ((with_reducible refine HS.out _ ?_); (repeat' (first | (with_reducible assumption) | (with_reducible exact Below.refl _ _) | (with_reducible refine Below.drew ?_) | (with_reducible refine st_alloc ?_ _) | exact And.left (by with_reducible assumption))); done) | fail)
        (first
        | (refine step_append_hash (l := [one.h]) (x := xa.h) (y := xb.h) (by rfl) _ _ (by rfl) (by rfl) (by rfl) (HK.out _ (bda w4 _)) (by simp) (by simp) (by simp) (HBS.out _ (bda w4 _)) ?_; intro v1 V1 own1 gr1; have b1 : Below w3.heap.size w3 V1 := hash_low HB4.out (bda w4 _) gr1)
        | fail)
      all_goals
        go_step
        go_step
        go_meet
        exact ⟨⟨[one.h] ++ [xa.h, xb.h], hash_row own1, Nat.le_refl 3, fun x hx => by
          have := H1.out.h
          have := HW.out
          simp only [List.cons_append, List.nil_append, List.mem_cons, List.not_mem_nil, or_false] at hx
          rcases hx with rfl | rfl | rfl <;> omega⟩, b1⟩
  case rest =>
    obtain ⟨⟨H, ⟨AH, cH, rfl, hH⟩, hH3, hHw⟩, hb5⟩ := hcut
    have HO : Hid (∀ W, Below wc.heap.size wc W → EntsIn W (.slice A3 mm c3) M) := Lib.hid fun W hW => (EntRow.in_ HR2.out).below (bj hb5 hW) (Nat.le_refl _)
    have HMM : Hid (∀ W, Below wc.heap.size wc W → EntsIn W (.slice A2 mm c2) M) := Lib.hid fun W hW => HIN2.out.below (bj HB3.out (bj hb5 hW)) (Nat.le_refl _)
    have HLL : Hid (∀ W, Below wc.heap.size wc W → EntsIn W (.slice A0 n c0) l) := Lib.hid fun W hW => HL.out.below (bj HB2.out (bj HB3.out (bj hb5 hW))) (Nat.le_refl _)
    have HON : Hid (∀ W, Below wc.heap.size wc W → EntAt W w.heap.size one.h one.v one.p) := Lib.hid fun W hW => Blok.below HONE.out (bj HB2.out (bj HB3.out (bj hb5 hW)))
    have HHC : Hid (∀ W, Below wc.heap.size wc W → ∀ (i : Nat) (x : Nat), H[i]? = some x → ∃ b off, AH = some ⟨b, off, none⟩ ∧ W.cell? ⟨b, off + i, none⟩ = some (.int .u64 (x : Nat))) := Lib.hid fun W hW i x hx => by
      obtain ⟨b, off, e1, e2, e3⟩ := hH i x hx
      exact ⟨b, off, e1, (hW.cell (p := ⟨b, off + i, none⟩) e2).trans e3⟩
    have HBC := Lib.hid (show Below w.heap.size w wc from bj HBW.out (bj HB2.out (bj HB3.out hb5)))
    have HHW := Lib.hid hHw
    obtain ⟨nh, hnh⟩ : ∃ nh, nh = H.length := ⟨_, rfl⟩
    have HNH := Lib.hid hnh
    rw [← hnh] at hH3 ⊢
    clear hH hHw hb5 hnh x0 x1 x2 HSO HR1 HR2 HIN2 HB2 HB3 HB4 HH1 HL HONE HBW HW1 HCL hw4 HNIL
    go_wp2_with fail
    go_loopw [10] (fun i wr => ∃ k : Nat, k ≤ nh ∧ i = .int .i64 k ∧ Below wc.heap.size wc wr) (fun i _ => nh - (intOf i).toNat)
    case atStart => exact ⟨0, Nat.zero_le _, rfl, Below.refl _ _⟩
    case round =>
      obtain ⟨k, hk, rfl, hbr⟩ := hrel
      by_cases hlt : k < nh
      · have t1 : (k : Int) < (nh : Int) := by omega
        have t2 : (0 : Int) ≤ (k : Int) := by omega
        obtain ⟨wo, rfl⟩ : ∃ wo : World, wo = wr := ⟨_, rfl⟩
        obtain ⟨hx, hxk⟩ : ∃ x, H[k]? = some x := ⟨_, List.getElem?_eq_getElem (by rw [← HNH.out]; exact hlt)⟩
        have hxw := HHW.out hx (List.mem_of_getElem? hxk)
        obtain ⟨hb0, ho, rfl, -⟩ := HHC.out wo hbr k hx hxk
        have HCC : Hid (∀ W, Below wc.heap.size wc W → W.cell? ⟨hb0, ho + k, none⟩ = some (.int .u64 (hx : Nat)) ∧ W.cell? ⟨w.heap.size, 1, none⟩ = some (.int .i64 one.v)) := Lib.hid fun W hW => by
          obtain ⟨b1, o1, e1, e2⟩ := HHC.out W hW k hx hxk
          injection e1 with e1
          injection e1 with e1 e3
          subst e1 e3
          exact ⟨e2, (EntAt.facts (HON.out W hW)).2.1⟩
        have HRG := Lib.hid fun W (hW : Below wo.heap.size wo W) => (range_any _ M hx one.v b W (HO.out W (bj hbr hW)) (by have := HML.out; omega) HM3.out HM1.out).mono fun e w' h => show (∃ A c, e = .returned (.slice A (rangeE M hx one.v b).length c) ∧ EntRow w' wo.heap.size (.slice A (rangeE M hx one.v b).length c) (rangeE M hx one.v b) ∧ Below wo.heap.size wo w') from by
          obtain ⟨A, c, h1, h2, h3⟩ := h
          exact ⟨A, c, h1, row_low h2 hW.size, bj hW h3⟩
        have HLA := Lib.hid fun W (hW : Below wo.heap.size wo W) => last_any _ M hx one.v W (HO.out W (bj hbr hW)) (by have := HML.out; omega) HM3.out HM1.out
        have HLB := Lib.hid fun W (hW : Below wo.heap.size wo W) => lastr_any _ M hx one.v W (HMM.out W (bj hbr hW)) (by have := HML.out; omega)
        have HSA := Lib.hid fun W (hW : Below wo.heap.size wo W) => search_any _ M hx one.v W (HO.out W (bj hbr hW)) (by have := HML.out; omega) HM3.out HM1.out
        have HSB := Lib.hid fun W (hW : Below wo.heap.size wo W) => searchr_any _ M hx one.v W (HMM.out W (bj hbr hW)) (by have := HML.out; omega)
        have HRB := Lib.hid fun W (hW : Below wo.heap.size wo W) => ranger_any _ M hx one.v b W (HMM.out W (bj hbr hW)) (by have := HML.out; omega)
        have HLN : Hid ((rangeE M hx one.v b).length ≤ 100) := Lib.hid (Nat.le_trans (List.length_filter_le _ _) HML.out)
        have HCO : Hid (∀ W, Below wo.heap.size wo W → W.cell? ⟨hb0, ho + k, none⟩ = some (.int .u64 (hx : Nat)) ∧ W.cell? ⟨w.heap.size, 1, none⟩ = some (.int .i64 one.v)) := Lib.hid fun W hW => HCC.out W (bj hbr hW)
        generalize rangeE M hx one.v b = L at *
        generalize lastE M hx one.v = X at *
        generalize lastOk M hx one.v = q at *
        generalize searchE M hx one.v = sN at *
        have HBR := Lib.hid hbr
        have HLT := Lib.hid hlt
        clear hxk hbr HO HMM HLL HON HHC HHW HM1 HM3 HOK H1 HBC HCC hxw
        go_upto_region 11 with fail
        go_cut [11] from 45 to 132 (fun u wx => RowAt wo L u wx ∧ Below wo.heap.size wo wx)
        case first =>
          have HS : Hid (∀ W, Below wo.heap.size wo W → Below wo.heap.size wo W ∧ W.cell? ⟨hb0, ho + k, none⟩ = some (.int .u64 (hx : Nat)) ∧ W.cell? ⟨w.heap.size, 1, none⟩ = some (.int .i64 one.v)) := Lib.hid fun W hW => ⟨hW, HCO.out W hW⟩
          obtain ⟨-, k0, k1⟩ := HS.out wo (Below.refl _ _)
          go_wp2_with fail
          go_region_held3 (fun W => Below wo.heap.size wo W ∧ W.cell? ⟨hb0, ho + k, none⟩ = some (.int .u64 (hx : Nat)) ∧ W.cell? ⟨w.heap.size, 1, none⟩ = some (.int .i64 one.v))
            (first | (with_reducible assumption) | ((with_reducible refine HS.out _ ?_); (repeat' (first | (with_reducible assumption) | (with_reducible exact Below.refl _ _) | (with_reducible refine Below.drew ?_))); done) | fail)
            (first
            | (go_at_call 15; ((with_reducible refine (HRG.out _ (And.left (by with_reducible assumption))).mono ?_); rintro e w' ⟨A5, c5, rfl, hr5, hB5⟩))
            | fail)
          all_goals
            go_step
            go_step
            go_meet
            exact ⟨⟨A5, c5, rfl, hr5⟩, hB5⟩
        case rest =>
          obtain ⟨⟨A5, c5, rfl, hr5⟩, hb11⟩ := hcut
          obtain ⟨w11, rfl⟩ : ∃ w11 : World, w11 = wc := ⟨_, rfl⟩
          have HR5 := Lib.hid hr5
          have HB11 := Lib.hid hb11
          clear hr5 hb11
          go_upto_region 12 with fail
          go_cut [12, 13] from 45 to 132 (fun u v wx => EntTold X q u v wx ∧ Below w11.heap.size w11 wx)
          case first =>
            have HS : Hid (∀ W, Below w11.heap.size w11 W → Below w11.heap.size w11 W ∧ W.cell? ⟨hb0, ho + k, none⟩ = some (.int .u64 (hx : Nat)) ∧ W.cell? ⟨w.heap.size, 1, none⟩ = some (.int .i64 one.v)) := Lib.hid fun W hW => ⟨hW, HCO.out W (bj HB11.out hW)⟩
            have HCT := Lib.hid fun W (hW : Below w11.heap.size w11 W) => HLA.out W (bj HB11.out hW)
            obtain ⟨-, k0, k1⟩ := HS.out w11 (Below.refl _ _)
            go_wp2_with fail
            go_region_held3 (fun W => Below w11.heap.size w11 W ∧ W.cell? ⟨hb0, ho + k, none⟩ = some (.int .u64 (hx : Nat)) ∧ W.cell? ⟨w.heap.size, 1, none⟩ = some (.int .i64 one.v))
              (first | (with_reducible assumption) | ((with_reducible refine HS.out _ ?_); (repeat' (first | (with_reducible assumption) | (with_reducible exact Below.refl _ _) | (with_reducible exact Nat.le_refl _) | (with_reducible refine Below.drew ?_) | (with_reducible refine st_alloc ?_ _) | (with_reducible refine low_one ?_ ?_) | exact Below.size (And.left (by with_reducible assumption)))); done) | fail)
              (first
              | (go_at_call 16; ((with_reducible refine (HCT.out _ (And.left (by with_reducible assumption))).mono ?_); rintro e w' ⟨rfl, hb6⟩; have hB6 : Below w11.heap.size w11 w' := bj (And.left (by with_reducible assumption)) hb6; (with_reducible (try (have A1 := Blok.below (Blok.drew (Blok.new _ _ _)) hb6; obtain ⟨A1c0, A1c1, A1c2, A1f0, A1f1, A1f2⟩ := blok3 A1)))))
              | fail)
            all_goals
              go_step
              go_step
              go_meet
              first
              | exact ⟨told_new _ X q, st_alloc hB6 _⟩
              | exact ⟨told_put A1 X q, low_three hB6 (Nat.le_refl _) _ _ _⟩
          case rest =>
            obtain ⟨⟨ga, rfl, rfl, hEa⟩, hb12⟩ := hcut
            obtain ⟨w12, rfl⟩ : ∃ w12 : World, w12 = wc := ⟨_, rfl⟩
            have HEA := Lib.hid hEa
            have HB12 := Lib.hid (bj HB11.out hb12)
            have HR12 := Lib.hid (EntRow.below HR5.out hb12 (Nat.le_refl _))
            clear hEa hb12 HR5 HB11 HLA HRG
            go_upto_region 13 with fail
            go_cut [14, 15] from 45 to 132 (fun u v wx => EntTold X q u v wx ∧ Below w12.heap.size w12 wx)
            case first =>
              have HS : Hid (∀ W, Below w12.heap.size w12 W → Below w12.heap.size w12 W ∧ W.cell? ⟨hb0, ho + k, none⟩ = some (.int .u64 (hx : Nat)) ∧ W.cell? ⟨w.heap.size, 1, none⟩ = some (.int .i64 one.v)) := Lib.hid fun W hW => ⟨hW, HCO.out W (bj HB12.out hW)⟩
              have HCT := Lib.hid fun W (hW : Below w12.heap.size w12 W) => HLB.out W (bj HB12.out hW)
              obtain ⟨-, k0, k1⟩ := HS.out w12 (Below.refl _ _)
              go_wp2_with fail
              go_region_held3 (fun W => Below w12.heap.size w12 W ∧ W.cell? ⟨hb0, ho + k, none⟩ = some (.int .u64 (hx : Nat)) ∧ W.cell? ⟨w.heap.size, 1, none⟩ = some (.int .i64 one.v))
                (first | (with_reducible assumption) | ((with_reducible refine HS.out _ ?_); (repeat' (first | (with_reducible assumption) | (with_reducible exact Below.refl _ _) | (with_reducible exact Nat.le_refl _) | (with_reducible refine Below.drew ?_) | (with_reducible refine st_alloc ?_ _) | (with_reducible refine low_one ?_ ?_) | exact Below.size (And.left (by with_reducible assumption)))); done) | fail)
                (first
                | (go_at_call 17; ((with_reducible refine (HCT.out _ (And.left (by with_reducible assumption))).mono ?_); rintro e w' ⟨rfl, hb6⟩; have hB6 : Below w12.heap.size w12 w' := bj (And.left (by with_reducible assumption)) hb6; (with_reducible (try (have A1 := Blok.below (Blok.drew (Blok.new _ _ _)) hb6; obtain ⟨A1c0, A1c1, A1c2, A1f0, A1f1, A1f2⟩ := blok3 A1)))))
                | fail)
              all_goals
                go_step
                go_step
                go_meet
                first
                | exact ⟨told_new _ X q, st_alloc hB6 _⟩
                | exact ⟨told_put A1 X q, low_three hB6 (Nat.le_refl _) _ _ _⟩
            case rest =>
              obtain ⟨⟨gb, rfl, rfl, hEb⟩, hb13⟩ := hcut
              obtain ⟨w13, rfl⟩ : ∃ w13 : World, w13 = wc := ⟨_, rfl⟩
              have HEA13 := Lib.hid (Blok.below HEA.out hb13)
              have HEB := Lib.hid hEb
              have HB13 := Lib.hid (bj HB12.out hb13)
              have HR13 := Lib.hid (EntRow.below HR12.out hb13 (Nat.le_refl _))
              clear hEb hb13 HR12 HB12 HLB HEA
              go_upto_region 14 with fail
              go_cut [122] from 45 to 132 (fun c wx => c = .bool false ∧ Below w13.heap.size w13 wx)
              case first =>
                have HS : Hid (∀ W, Below w13.heap.size w13 W → Below w13.heap.size w13 W ∧ (W.cell? ⟨hb0, ho + k, none⟩ = some (.int .u64 (hx : Nat)) ∧ W.cell? ⟨w.heap.size, 1, none⟩ = some (.int .i64 one.v)) ∧ (W.cell? ⟨ga, 0, none⟩ = some (.int .u64 (X.h : Nat)) ∧ W.cell? ⟨ga, 1, none⟩ = some (.int .i64 X.v) ∧ W.cell? ⟨ga, 2, none⟩ = some (.int .i64 X.p)) ∧ (W.cell? ⟨gb, 0, none⟩ = some (.int .u64 (X.h : Nat)) ∧ W.cell? ⟨gb, 1, none⟩ = some (.int .i64 X.v) ∧ W.cell? ⟨gb, 2, none⟩ = some (.int .i64 X.p))) := Lib.hid fun W hW =>
                  ⟨hW, HCO.out W (bj HB13.out hW), ⟨(EntAt.facts (Blok.below HEA13.out hW)).1, (EntAt.facts (Blok.below HEA13.out hW)).2.1, (EntAt.facts (Blok.below HEA13.out hW)).2.2.1⟩, (EntAt.facts (Blok.below HEB.out hW)).1, (EntAt.facts (Blok.below HEB.out hW)).2.1, (EntAt.facts (Blok.below HEB.out hW)).2.2.1⟩
                have T1 := Lib.hid fun W (hW : Below w13.heap.size w13 W) => HSA.out W (bj HB13.out hW)
                have T2 := Lib.hid fun W (hW : Below w13.heap.size w13 W) => HSB.out W (bj HB13.out hW)
                have T3 := Lib.hid fun W (hW : Below w13.heap.size w13 W) => (HRB.out W (bj HB13.out hW)).mono fun e w' h => show (∃ A c, e = .returned (.slice A L.length c) ∧ EntsIn w' (.slice A L.length c) L ∧ Below W.heap.size W w') from by
                  obtain ⟨A, c, h1, h2, h3⟩ := h
                  exact ⟨A, c, h1, EntRow.in_ h2, h3⟩
                have T4 := Lib.hid fun W A c (hW : Below w13.heap.size w13 W) (h6 : EntsIn W (.slice A L.length c) L) => (esame_any _ _ L L W (EntRow.in_ (EntRow.below HR13.out hW (Nat.le_refl _))) h6 (by have := HLN.out; omega) (by have := HLN.out; omega)).mono fun e w' h => show (e = .returned (.bool true) ∧ Below W.heap.size W w') from by
                  obtain ⟨h1, nn, h2⟩ := h
                  rw [decide_eq_true rfl] at h1
                  exact ⟨h1, by rw [h2]; exact below_drewN (Below.refl _ _) nn⟩
                have hne := fun W => ent_neq X X W
                rw [decide_eq_true rfl] at hne
                have eq1 : ((sN : Int) != (sN : Int)) = false := by simp
                have eq2 : (q != q) = false := by simp
                obtain ⟨-, ⟨k0, k1⟩, ⟨a0, a1, a2⟩, ⟨b0, b1, b2⟩⟩ := HS.out w13 (Below.refl _ _)
                go_wp2_with fail
                go_region_held3 (fun W => Below w13.heap.size w13 W ∧ (W.cell? ⟨hb0, ho + k, none⟩ = some (.int .u64 (hx : Nat)) ∧ W.cell? ⟨w.heap.size, 1, none⟩ = some (.int .i64 one.v)) ∧ (W.cell? ⟨ga, 0, none⟩ = some (.int .u64 (X.h : Nat)) ∧ W.cell? ⟨ga, 1, none⟩ = some (.int .i64 X.v) ∧ W.cell? ⟨ga, 2, none⟩ = some (.int .i64 X.p)) ∧ (W.cell? ⟨gb, 0, none⟩ = some (.int .u64 (X.h : Nat)) ∧ W.cell? ⟨gb, 1, none⟩ = some (.int .i64 X.v) ∧ W.cell? ⟨gb, 2, none⟩ = some (.int .i64 X.p)))
                  (first | (with_reducible assumption) | ((with_reducible refine HS.out _ ?_); (repeat' (first | (with_reducible assumption) | (with_reducible exact Below.refl _ _) | (with_reducible refine Below.drew ?_))); done) | fail)
                  (first
                  | (go_at_call 18; ((with_reducible refine (T1.out _ (And.left (by with_reducible assumption))).mono ?_); rintro e w' ⟨rfl, hb⟩; have hB := hold_go hb (by with_reducible assumption)))
                  | (go_at_call 19; ((with_reducible refine (T2.out _ (And.left (by with_reducible assumption))).mono ?_); rintro e w' ⟨rfl, rfl⟩))
                  | (go_at_call 21; ((with_reducible refine (T3.out _ (And.left (by with_reducible assumption))).mono ?_); rintro e w' ⟨A6, c6, rfl, hr6, hb⟩; have hB := hold_go hb (by with_reducible assumption)))
                  | (go_at_call 20; ((with_reducible refine (T4.out _ _ _ (And.left (by with_reducible assumption)) (by with_reducible assumption)).mono ?_); rintro e w' ⟨rfl, hb⟩; have hB := hold_go hb (by with_reducible assumption)))
                  | fail)
                all_goals
                  go_step
                  go_step
                  go_meet
                  exact ⟨rfl, And.left (by with_reducible assumption)⟩
              case rest =>
                obtain ⟨rfl, hb14⟩ := hcut
                obtain ⟨w14, rfl⟩ : ∃ w14 : World, w14 = wc := ⟨_, rfl⟩
                have HWP := Lib.hid (wipe_row (EntRow.below HR13.out hb14 (Nat.le_refl _)))
                have HB14 := Lib.hid (bj HB13.out hb14)
                have hln := HLN.out
                clear hb14 HR13 HB13 HEA13 HEB HSA HSB HRB HCO HLN
                generalize L.length = nl at *
                go_wp2_with fail
                go_loopw [16] (fun i wr => ∃ j : Nat, j ≤ nl ∧ i = .int .i64 j ∧ Below wo.heap.size wo wr ∧ Wipe wo A5 nl wr) (fun i _ => nl - (intOf i).toNat)
                case atStart => exact ⟨0, Nat.zero_le _, rfl, HB14.out, HWP.out⟩
                case round =>
                  obtain ⟨j, hj, rfl, hbw, hwp⟩ := hrel
                  by_cases hjl : j < nl
                  · rcases hwp with h0 | ⟨bb, oo, cs, rfl, hbb, hblk, hcs⟩
                    · omega
                    have t3 : (j : Int) < (nl : Int) := by omega
                    have t4 : (0 : Int) ≤ (j : Int) := by omega
                    obtain ⟨d0, f0⟩ := wipe_cell hblk (show oo + j * 3 < cs.size by omega)
                    obtain ⟨d1, f1⟩ := wipe_cell hblk (show oo + j * 3 + 1 < cs.size by omega)
                    obtain ⟨d2, f2⟩ := wipe_cell hblk (show oo + j * 3 + 2 < cs.size by omega)
                    have HWQ := Lib.hid (wipe_put (j := j) hbb hblk hcs (.int .u64 0) (.int .i64 0) (.int .i64 0))
                    have HBQ := Lib.hid (low_wipe (i := oo + j * 3) hbw hbb (.int .u64 0) (.int .i64 0) (.int .i64 0))
                    generalize cs[oo + j * 3] = e0 at *
                    generalize cs[oo + j * 3 + 1] = e1 at *
                    generalize cs[oo + j * 3 + 2] = e2 at *
                    clear hblk hcs hbw hbb HWP HB14
                    go_wp2
                    go_roundw
                    case rel => exact ⟨j + 1, by omega, by go_num, HBQ.out, HWQ.out⟩
                    case measure => simp [intOf]; omega
                  · obtain rfl : j = nl := by omega
                    have t3 : ¬ (j : Int) < (j : Int) := by omega
                    have HBW2 := Lib.hid (bj HBR.out hbw)
                    clear hwp hbw HWP HB14 hjl
                    have hkl := HLT.out
                    go_wp2
                    go_roundw
                    case rel => exact ⟨k + 1, by omega, by go_num, HBW2.out⟩
                    case measure => simp [intOf]; omega
      · obtain rfl : k = nh := by omega
        have t1 : ¬ (k : Int) < (k : Int) := by omega
        have F1 := esame_any _ _ M M wr (HO.out wr hbr) (HMM.out wr hbr) (by have := HML.out; omega) (by have := HML.out; omega)
        rw [decide_eq_true rfl] at F1
        have HF1 := Lib.hid F1
        have HF2 := Lib.hid fun W hW => sorted_any _ M W (HMM.out W hW) (by have := HML.out; omega)
        have HF3 := Lib.hid fun W hW => sorted_any _ l W (HLL.out W hW) (by rw [← HN.out]; omega)
        have HF4 := Lib.hid fun W hW => sortedr_any _ l W (HLL.out W hW) (by rw [← HN.out]; omega)
        have hso := HM1.out.sorted
        rw [hso] at HF2
        have e1 : (sortedE l == sortedE l) = true := by simp
        generalize sortedE l = o at *
        clear F1 hso
        go_wp2_with fail
        refine HF1.out.mono ?_
        rintro e w' ⟨rfl, nn, rfl⟩
        have hbr2 := below_drewN hbr nn
        generalize wr.drewN nn = wr2 at *
        go_wp2_with fail
        refine (HF2.out _ hbr2).mono ?_
        rintro e w6 ⟨rfl, hb6⟩
        have hb6' := bj hbr2 hb6
        go_wp2_with fail
        refine (HF3.out _ hb6').mono ?_
        rintro e w7 ⟨rfl, hb7⟩
        have hb7' := bj hb6' hb7
        go_wp2_with fail
        refine (HF4.out _ hb7').mono ?_
        rintro e w8 ⟨rfl, hb8⟩
        go_wp2_with fail
        refine (entered_true _).mono ?_
        rintro e w9 ⟨rfl, hb9⟩
        go_wp2
        go_ret
        exact ⟨rfl, bj HBC.out (bj (bj hb7' hb8) hb9)⟩
theorem walk (W : World) (v : Value) (l : List EntS) (one : EntS) (c : Int) (hl : EntsIn W v l) (wl : ∀ x ∈ l, EntOk x) (wx : EntOk one) (wc : (Lit.int .i64 c).wf = true) :
    Calls Try.prog 4 #[v, entB one, .int .i64 c] W fun e w' => e = .returned (.bool true) ∧ Below W.heap.size W w' := by
  by_cases h : l.length ≤ 100
  · exact main v l one c W hl h wl wx
  · exact long v l one c W hl (by omega)
end Go.Proofs.Ytjbhahcogdpkpaa.EnAsk

/- EntSortRef, TbMade -/
import Derived.Test.YtmbhafabphogdaaGreatRk32
import Derived.Deep.CutBlock
import Derived.Deep.DeepCutAuto
import Derived.Deep.RegionHeldLaw
import Derived.Deep.DrawnRows
import Derived.Test.YtmbhafabphogdaaGreatRk28
import Derived.BigRegion
/- EntSortRef -/
namespace Go.Proofs.YtmbhafabphogdaaGreat
open Go.RowKit Go.Shelf
set_option linter.unusedVariables false
attribute [local go_sem ↓] Go.wp_at_zero Go.wp_at_succ

def SortAt (w wr : World) (L : List EntS) (u : Value) : Prop := ∃ A c, u = .slice A L.length c ∧ EntRow wr w.heap.size (.slice A L.length c) L
theorem layE_new {L : List EntS} {x : EntS} (h : L[posE L x]? ≠ some x) : [] ++ L.take (posE L x) ++ [x] ++ L.drop (posE L x) = layEn L x := by
  unfold layEn
  rw [if_neg h, List.nil_append]
theorem layE_old {L : List EntS} {x : EntS} (h : L[posE L x]? = some x) : layEn L x = L := by
  unfold layEn
  rw [if_pos h]
theorem ebelow0 {w wo wd : World} (h : Below w.heap.size w wo) (k : Below wo.heap.size wo wd) : Below w.heap.size w wd := bj h k
end Go.Proofs.YtmbhafabphogdaaGreat

/- TbMade -/
namespace Go.Proofs.YtmbhafabphogdaaGreat
open Go.RowKit Go.Shelf
set_option linter.unusedVariables false
set_option maxRecDepth 100000
attribute [local go_sem ↓] Go.wp_at_zero Go.wp_at_succ

theorem and_small (a : Int) (m : Nat) (hm : m < 4611686018427387904) : ∃ t : Nat, bits .and .i64 a (m : Int) = (t : Nat) ∧ t ≤ m := by
  have h2 : (BitVec.ofInt 64 (m : Int)).toNat = m := by
    rw [BitVec.ofInt_natCast, BitVec.toNat_ofNat]; exact Nat.mod_eq_of_lt (by omega)
  have h3 : (BitVec.ofInt 64 a &&& BitVec.ofInt 64 (m : Int)).toNat ≤ m := by
    rw [BitVec.toNat_and, h2]
    exact Nat.and_le_right
  refine ⟨(BitVec.ofInt 64 a &&& BitVec.ofInt 64 (m : Int)).toNat, ?_, h3⟩
  show IntKind.i64.wrap ((BitVec.ofInt 64 a &&& BitVec.ofInt 64 (m : Int)).toNat : Int) = _
  rw [IntKind.wrap_i64]
  omega
/-- An entry of a raw one. -/
def mkE (x : EntS) : EntS := ⟨x.h % 7 * 1000003, bits .and .i64 x.v 63, bits .and .i64 x.p 1023⟩
theorem mkE_ok (x : EntS) : EntOk (mkE x) ∧ mayE (mkE x) = true := by
  obtain ⟨v, hv, hv2⟩ := and_small x.v 63 (by decide)
  obtain ⟨p, hp, hp2⟩ := and_small x.p 1023 (by decide)
  unfold mkE
  rw [show ((63 : Nat) : Int) = 63 from rfl] at hv
  rw [show ((1023 : Nat) : Int) = 1023 from rfl] at hp
  rw [hv, hp]
  exact ⟨⟨by show x.h % 7 * 1000003 < _; omega, by show (-9223372036854775808 : Int) ≤ (v : Int); omega, by show (v : Int) ≤ _; omega, by show (-9223372036854775808 : Int) ≤ (p : Int); omega, by show (p : Int) ≤ _; omega⟩, decide_eq_true ⟨by show (0 : Int) ≤ (v : Int); omega, by show (0 : Int) ≤ (p : Int); omega⟩⟩
def madeE (l : List EntS) : List EntS := sortE (l.map mkE)
theorem madeE_ok (l : List EntS) : (∀ x ∈ madeE l, EntOk x) ∧ tbOk (madeE l) = true := by
  have h : ∀ x ∈ madeE l, ∃ y, x = mkE y := fun x hx => by
    obtain ⟨y, _, e⟩ := List.mem_map.1 (sort_mem x hx)
    exact ⟨y, e.symm⟩
  refine ⟨fun x hx => ?_, tbOk_iff.2 ⟨(sort_rise _).sorted, fun x hx => ?_⟩⟩
  · obtain ⟨y, rfl⟩ := h x hx
    exact (mkE_ok y).1
  · obtain ⟨y, rfl⟩ := h x hx
    exact (mkE_ok y).2
theorem madeE_length (l : List EntS) : (madeE l).length ≤ l.length := by
  have := sort_length (l.map mkE)
  rw [List.length_map] at this
  exact this
set_option maxHeartbeats 8000000 in
set_option maxRecDepth 100000 in
theorem made_any (v : Value) (l : List EntS) (w : World) (hl : EntsIn w v l) (hn : l.length ≤ 10000) :
    Calls Tryz.prog 8 #[v] w (EntsOut w (madeE l)) := by
  obtain ⟨A0, off, cap, rfl, -, hcell⟩ := hl.form
  have HC := Lib.hid hcell
  obtain ⟨n, hnn⟩ : ∃ n, n = l.length := ⟨_, rfl⟩
  have HN := Lib.hid hnn
  have HE := Lib.hid (show madeE l = sortE ((l.map mkE).take n) by rw [hnn, ← List.map_take, List.take_length]; rfl)
  rw [← hnn] at hn ⊢
  clear hl hcell hnn
  generalize madeE l = r at *
  go_enter Tryz.func8, Tryz.ntmps8
  go_wp2
  go_loopw [3, 4] (fun u i wr => ∃ k : Nat, k ≤ n ∧ i = .int .i64 k ∧ (∃ A c, u = .slice A (sortE ((l.map mkE).take k)).length c ∧ EntRow wr w.heap.size (.slice A (sortE ((l.map mkE).take k)).length c) (sortE ((l.map mkE).take k))) ∧ Below w.heap.size w wr) (fun _ i _ => n - (intOf i).toNat)
  case atStart => exact ⟨0, Nat.zero_le _, rfl, ⟨none, 0, rfl, EntRow.nil _ _⟩, Below.refl _ _⟩
  case round =>
    obtain ⟨k, hk, rfl, ⟨A1, c1, rfl, hrow0⟩, hbel0⟩ := hrel
    obtain ⟨ws, rfl⟩ : ∃ ws : World, ws = wr := ⟨_, rfl⟩
    by_cases hlt : k < n
    · have s1 : (k : Int) < (n : Int) := by omega
      obtain ⟨x0, hx0⟩ : ∃ x, l[k]? = some x := ⟨_, List.getElem?_eq_getElem (by rw [← HN.out]; omega)⟩
      obtain ⟨b0, rfl, hbk0, d0, d1, d2⟩ := HC.out k x0 hx0
      have e0 := (hbel0.cell (p := ⟨b0, off + k * 3, none⟩) hbk0).trans d0
      have e1 := (hbel0.cell (p := ⟨b0, off + k * 3 + 1, none⟩) hbk0).trans d1
      have e2 := (hbel0.cell (p := ⟨b0, off + k * 3 + 2, none⟩) hbk0).trans d2
      obtain ⟨x, hxm⟩ : ∃ x, x = mkE x0 := ⟨_, rfl⟩
      have HT := Lib.hid (sort_take (l := l.map mkE) (k := k) (x := x) (by rw [List.getElem?_map, hx0, hxm]; rfl))
      have hlen : (sortE ((l.map mkE).take k)).length ≤ n := by
        have h1 := sort_length ((l.map mkE).take k)
        rw [List.length_take] at h1
        omega
      generalize sortE ((l.map mkE).take k) = L at *
      obtain ⟨m, hm⟩ : ∃ m, m = L.length := ⟨_, rfl⟩
      have HM := Lib.hid hm
      rw [← hm] at hlen ⊢
      have HR0 := Lib.hid hrow0
      have HB0 := Lib.hid hbel0
      have HXM := Lib.hid hxm
      have hbs : b0 < ws.heap.size := Nat.lt_of_lt_of_le hbk0 hbel0.size
      have hal := (Below.refl ws.heap.size ws).alloc (Nat.le_refl _) (.cells #[.int .u64 0, .int .i64 0, .int .i64 0] 56)
      have g0 := (hal.cell (p := ⟨b0, off + k * 3, none⟩) hbs).trans e0
      have g1 := (hal.cell (p := ⟨b0, off + k * 3 + 1, none⟩) hbs).trans e1
      have g2 := (hal.cell (p := ⟨b0, off + k * 3 + 2, none⟩) hbs).trans e2
      clear hx0 d0 d1 d2 hrow0 hbel0 hm hxm hbk0
      go_upto_region 5 with fail
      go_cut [5] from 7 to 69 (fun u wx => ∃ g, u = .pointer (some ⟨g, 0, none⟩) ∧ ws.heap.size ≤ g ∧ EnAt wx g x.h x.v x.p ∧ Below ws.heap.size ws wx)
      case first =>
        obtain ⟨xh, xv, xp⟩ := x0
        simp only at e0 e1 e2 g0 g1 g2
        clear hal hbs HT hlen HC
        go_region
        go_step
        go_step
        go_meet
        have hh := HXM.out
        unfold mkE at hh
        simp only at hh
        refine ⟨_, rfl, Nat.le_refl _, ?_, ((Below.refl _ _).alloc (Nat.le_refl _) _).drew⟩
        rw [hh]
        exact (Blok.new ws _ _).drew
      case rest =>
        obtain ⟨bk, rfl, hbk, hen, hbc0⟩ := hcut
        obtain ⟨wo, rfl⟩ : ∃ wo : World, wo = wc := ⟨_, rfl⟩
        have hbel := bj HB0.out hbc0
        have hrow := EntRow.below HR0.out hbc0 (Nat.le_refl _)
        have HX := Lib.hid (show ∀ W, Below wo.heap.size wo W → W.cell? ⟨bk, 0, none⟩ = some (.int .u64 (x.h : Nat)) ∧ W.cell? ⟨bk, 1, none⟩ = some (.int .i64 x.v) ∧ W.cell? ⟨bk, 2, none⟩ = some (.int .i64 x.p) from fun W hW =>
          have hf := EnAt.facts (Blok.below hen hW)
          ⟨hf.1, hf.2.1, hf.2.2.1⟩)
        have hin := EntRow.in_ hrow
        have HR := Lib.hid hrow
        have HIN := Lib.hid hin
        have HF := Lib.hid hin.form
        have hmL := HM.out
        rw [← hmL] at HF
        clear hrow hin hmL hen hbc0 HR0 HB0 HXM e0 e1 e2 g0 g1 g2 hal hbs HC
        go_upto_block 2 with fail
        go_cut [6] from 7 to 69 (fun u wx => u = .int .i64 (posE L x : Nat) ∧ Below wo.heap.size wo wx)
        case first =>
          go_wp2_with fail
          go_loopw [6] (fun i wr => ∃ j : Nat, j ≤ m ∧ i = .int .i64 j ∧ (∀ j' y, j' < j → L[j']? = some y → lessE y x = true) ∧ Below wo.heap.size wo wr) (fun i _ => m - (intOf i).toNat)
          case atStart => exact ⟨0, Nat.zero_le _, rfl, fun j' y hj => absurd hj (by omega), Below.refl _ _⟩
          case round =>
            obtain ⟨j, hj, rfl, hall, hb2⟩ := hrel
            have HA := Lib.hid hall
            clear hall
            by_cases hjm : j < m
            · have t1 : (j : Int) < (m : Int) := by omega
              obtain ⟨y, hy⟩ : ∃ y, L[j]? = some y := ⟨_, List.getElem?_eq_getElem (by rw [← HM.out]; omega)⟩
              obtain ⟨A', o', c', e', -, hcl⟩ := HF.out
              obtain ⟨rfl, -, rfl⟩ := Value.slice.inj e'
              obtain ⟨ob, rfl, hob, g0, g1, g2⟩ := hcl j y hy
              have HS : Hid (∀ W, Below wr.heap.size wr W → Below wr.heap.size wr W ∧ (W.cell? ⟨bk, 0, none⟩ = some (.int .u64 (x.h : Nat)) ∧ W.cell? ⟨bk, 1, none⟩ = some (.int .i64 x.v) ∧ W.cell? ⟨bk, 2, none⟩ = some (.int .i64 x.p)) ∧
                  (W.cell? ⟨ob, o' + j * 3, none⟩ = some (.int .u64 (y.h : Nat)) ∧ W.cell? ⟨ob, o' + j * 3 + 1, none⟩ = some (.int .i64 y.v) ∧ W.cell? ⟨ob, o' + j * 3 + 2, none⟩ = some (.int .i64 y.p))) := Lib.hid fun W hW =>
                ⟨hW, HX.out W (bj hb2 hW), ((bj hb2 hW).cell (p := ⟨ob, o' + j * 3, none⟩) hob).trans g0, ((bj hb2 hW).cell (p := ⟨ob, o' + j * 3 + 1, none⟩) hob).trans g1, ((bj hb2 hW).cell (p := ⟨ob, o' + j * 3 + 2, none⟩) hob).trans g2⟩
              have s0 := HS.out wr (Below.refl _ _)
              have HY := Lib.hid hy
              have HL := fun W => eless_any y x W
              clear hcl g0 g1 g2 hob e' hy HF
              cases o : lessE y x
              all_goals
                rw [o] at HL
                have HLL := Lib.hid HL
                have HO := Lib.hid o
                clear HL o
                have HPX := Lib.hid (show posE L x = posE L x from rfl)
                obtain ⟨-, ⟨a0, a1, a2⟩, c0, c1', c2⟩ := s0
                go_wp2_with fail
                go_region_held3 (fun W => Below wr.heap.size wr W ∧ (W.cell? ⟨bk, 0, none⟩ = some (.int .u64 (x.h : Nat)) ∧ W.cell? ⟨bk, 1, none⟩ = some (.int .i64 x.v) ∧ W.cell? ⟨bk, 2, none⟩ = some (.int .i64 x.p)) ∧
                  (W.cell? ⟨ob, o' + j * 3, none⟩ = some (.int .u64 (y.h : Nat)) ∧ W.cell? ⟨ob, o' + j * 3 + 1, none⟩ = some (.int .i64 y.v) ∧ W.cell? ⟨ob, o' + j * 3 + 2, none⟩ = some (.int .i64 y.p)))
                  (first | (with_reducible assumption) | ((with_reducible refine HS.out _ ?_); (first | (with_reducible assumption) | (with_reducible exact Below.refl _ _) | (with_reducible exact (Below.refl _ _).drew) | exact (bj (And.left (by with_reducible assumption)) ‹Below _ _ _›)); done) | fail)
                  (first
                  | (go_at_call 34; ((with_reducible refine (HLL.out _).mono ?_); rintro e w3 ⟨rfl, hb3⟩; have hB3 : Below wr.heap.size wr w3 := bj (And.left (by with_reducible assumption)) hb3))
                  | fail)
                all_goals
                  go_wp2
                  first
                  | (go_roundw
                     case rel =>
                       refine ⟨j + 1, by omega, by go_num, fun i z hi hz => ?_, bj hb2 hB3⟩
                       rcases Nat.lt_or_ge i j with c | c
                       · exact HA.out i z c hz
                       · obtain rfl : i = j := by omega
                         rw [HY.out] at hz
                         rw [← Option.some.inj hz]
                         exact HO.out
                     case measure => simp [intOf]; omega)
                  | (go_meet
                     exact ⟨by rw [Nat.le_antisymm (posE_lt HY.out HO.out) (posE_at (by rw [← HM.out]; exact hj) HA.out)], bj hb2 hB3⟩)
            · obtain rfl : j = m := by omega
              have t1 : ¬ (j : Int) < (j : Int) := by omega
              have t2 : decide (j < j) = false := decide_eq_false (by omega)
              have hP := Lib.hid (show posE L x = j from Nat.le_antisymm (by rw [HM.out]; exact posE_le L x) (posE_at (by rw [← HM.out]; exact hj) HA.out))
              clear hjm HF
              go_wp2
              first
              | (go_quiet (fail)
                 go_wp2
                 go_meet
                 exact ⟨by rw [hP.out], below_drewN hb2 _⟩)
              | (go_meet
                 exact ⟨by rw [hP.out], hb2⟩)
        case rest =>
          obtain ⟨rfl, hbc⟩ := hcut
          have hjm : posE L x ≤ m := by rw [HM.out]; exact posE_le L x
          have HNew := Lib.hid (layE_new (L := L) (x := x))
          have HOld := Lib.hid (layE_old (L := L) (x := x))
          generalize posE L x = j at *
          go_upto_region 9 with fail
          go_cut [58] from 7 to 69 (fun c wx => c = .bool (!decide (L[j]? = some x)) ∧ ∃ nn, wx = wc.drewN nn)
          case first =>
            by_cases hj : j = m
            · subst hj
              have e0 : L[j]? = none := List.getElem?_eq_none (by rw [← HM.out]; exact Nat.le_refl _)
              have E0 := Lib.hid (show decide (L[j]? = some x) = false by rw [e0]; exact decide_eq_false (fun h => by cases h))
              have t1 : ((j : Int) == (j : Int)) = true := beq_self_eq_true _
              clear HF e0
              go_wp2_with fail
              go_quiet (fail)
              go_wp2
              go_meet
              exact ⟨by rw [E0.out]; rfl, _, rfl⟩
            · have t1 : ((j : Int) == (m : Int)) = false := beq_eq_false_iff_ne.2 (by omega)
              have t3 : (j : Int) < (m : Int) := by omega
              have t4 : j < m := by omega
              obtain ⟨y, hy⟩ : ∃ y, L[j]? = some y := ⟨_, List.getElem?_eq_getElem (by rw [← HM.out]; omega)⟩
              obtain ⟨A', o', c', e', -, hcl⟩ := HF.out
              obtain ⟨rfl, -, rfl⟩ := Value.slice.inj e'
              obtain ⟨ob, rfl, hob, g0, g1, g2⟩ := hcl j y hy
              have f0 := (hbc.cell (p := ⟨ob, o' + j * 3, none⟩) hob).trans g0
              have f1 := (hbc.cell (p := ⟨ob, o' + j * 3 + 1, none⟩) hob).trans g1
              have f2 := (hbc.cell (p := ⟨ob, o' + j * 3 + 2, none⟩) hob).trans g2
              obtain ⟨a0, a1, a2⟩ := HX.out wc hbc
              have hne := fun W => ent_neq y x W
              have E1 := Lib.hid (show decide (L[j]? = some x) = decide (y = x) by rw [hy, decide_eq_decide]; exact ⟨fun h => Option.some.inj h, fun h => by rw [h]⟩)
              clear hcl g0 g1 g2 hob e' hy HF hj
              generalize decide (y = x) = q at *
              obtain ⟨xh, xv, xp⟩ := x
              obtain ⟨yh, yv, yp⟩ := y
              simp only at f0 f1 f2 a0 a1 a2
              go_wp2_with fail
              go_quiet (fail)
              go_wp2
              go_meet
              exact ⟨by rw [E1.out], _, rfl⟩
          case rest =>
            obtain ⟨rfl, nn, rfl⟩ := hcut
            have hbd : Below wo.heap.size wo (wc.drewN nn) := below_drewN hbc nn
            clear hbc HF
            generalize wc.drewN nn = wd at *
            by_cases hj : L[j]? = some x
            · rw [decide_eq_true hj]
              have R2 := Lib.hid (show ∃ A c, Value.slice A1 m c1 = .slice A (sortE ((l.map mkE).take (k + 1))).length c ∧ EntRow wd w.heap.size (.slice A (sortE ((l.map mkE).take (k + 1))).length c) (sortE ((l.map mkE).take (k + 1))) by
                rw [HT.out, HOld.out hj, ← HM.out]
                exact ⟨A1, c1, rfl, EntRow.below (by rw [HM.out]; exact HR.out) hbd (Nat.le_refl _)⟩)
              clear HR HNew HOld HIN HT
              go_wp2
              go_roundw
              case rel => exact ⟨k + 1, by omega, by go_num, R2.out, ebelow0 hbel hbd⟩
              case measure => simp [intOf]; omega
            · rw [decide_eq_false hj]
              have hNew := HNew.out hj
              have hT := HT.out
              have HX1 := Lib.hid (fun W (hW : Below wd.heap.size wd W) => HX.out W (bj hbd hW))
              have HB := Lib.hid (fun W (hW : Below wd.heap.size wd W) => (show w.heap.size ≤ W.heap.size from Nat.le_trans hbel.size (Nat.le_trans hbd.size hW.size)))
              have hin1 := EntsIn.below HIN.out hbd (Nat.le_refl _)
              rw [← HM.out] at hin1
              obtain ⟨T1, tc1, hs1, hp1⟩ := ents_to hin1 (m := j) (by rw [← HM.out]; exact hjm)
              obtain ⟨T2, tc2, hs2, hp2⟩ := ents_from hin1 (k := j) (by rw [← HM.out]; exact hjm)
              obtain ⟨a0, a1, a2⟩ := HX1.out wd (Below.refl _ _)
              have hl1 : (L.take j).length = j := by rw [List.length_take, ← HM.out]; omega
              have hl2 : (L.drop j).length = m - j := by rw [List.length_drop, ← HM.out]
              rw [← HM.out] at hs2 hp2
              have HP1 := Lib.hid hp1
              have HP2 := Lib.hid hp2
              have HL1 := Lib.hid hl1
              have HL2 := Lib.hid hl2
              have HNW := Lib.hid (hT.trans hNew.symm)
              clear hj HR HNew HOld HIN HT hNew hT hin1 hp1 hp2 hl1 hl2 HX
              go_upto_region 10 with fail
              have HS : Hid (∀ W, Below wd.heap.size wd W → Below wd.heap.size wd W ∧ W.cell? ⟨bk, 0, none⟩ = some (.int .u64 (x.h : Nat)) ∧ W.cell? ⟨bk, 1, none⟩ = some (.int .i64 x.v) ∧ W.cell? ⟨bk, 2, none⟩ = some (.int .i64 x.p)) := Lib.hid fun W hW => ⟨hW, HX1.out W hW⟩
              go_region_held_law (fun W => Below wd.heap.size wd W ∧ W.cell? ⟨bk, 0, none⟩ = some (.int .u64 (x.h : Nat)) ∧ W.cell? ⟨bk, 1, none⟩ = some (.int .i64 x.v) ∧ W.cell? ⟨bk, 2, none⟩ = some (.int .i64 x.p))
                (first | (with_reducible assumption) | ((with_reducible refine HS.out _ ?_); (repeat' (first | (with_reducible assumption) | (with_reducible exact Below.refl _ _) | (with_reducible refine Below.drew ?_) | (with_reducible refine st_alloc ?_ _) | exact And.left (by with_reducible assumption))); done) | fail)
                (first
                | (refine step_append_ents (l := []) (m := L.take j) (by rfl) _ _ (by rfl) (by rfl) (by rfl) (EntRow.nil _ w.heap.size) (HP1.out _ _ (Nat.le_refl _) (And.left (by with_reducible assumption))) (by rw [HL1.out]; simp only [List.length_nil]; omega) (HB.out _ (And.left (by with_reducible assumption))) ?_; intro v1 V1 own1 gr1 at1; have far1 : ∀ z, v1.ownBlock = some z → wd.heap.size ≤ z := far_more (And.left (by with_reducible assumption)) far_none at1; have b1 : Below wd.heap.size wd V1 := st_grown (And.left (by with_reducible assumption)) gr1 far_none; (with_reducible (try (have sB := (ent_one _ x).drew.grown0 gr1))))
                | (refine step_append_ents (l := [] ++ L.take j) (m := [x]) (by rfl) _ _ (by rfl) (by rfl) (by rfl) (EntRow.alloc own1 _) (ent_one _ x) (by simp only [List.nil_append, List.length_cons, List.length_nil]; rw [HL1.out]; omega) (HB.out _ (st_alloc b1 _)) ?_; intro v2 V2 own2 gr2 at2; have far2 : ∀ z, v2.ownBlock = some z → wd.heap.size ≤ z := far_more (st_alloc b1 _) far1 at2; have b2 : Below wd.heap.size wd V2 := st_grown (st_alloc b1 _) gr2 far1)
                | (refine step_append_ents (l := [] ++ L.take j) (m := [x]) (by rfl) _ _ (by rfl) (by rfl) (by rfl) own1 sB (by simp only [List.nil_append, List.length_cons, List.length_nil]; rw [HL1.out]; omega) (HB.out _ b1) ?_; intro v2 V2 own2 gr2 at2; have far2 : ∀ z, v2.ownBlock = some z → wd.heap.size ≤ z := far_more b1 far1 at2; have b2 : Below wd.heap.size wd V2 := st_grown b1 gr2 far1)
                | (refine step_append_ents (l := [] ++ L.take j ++ [x]) (m := L.drop j) (by rfl) _ _ (by rfl) (by rfl) (by rfl) own2 (HP2.out _ _ (Nat.le_refl _) b2) (by simp only [List.nil_append, List.length_append, List.length_cons, List.length_nil]; rw [HL1.out, HL2.out]; omega) (HB.out _ b2) ?_; intro v3 V3 own3 gr3 at3; have b3 : Below wd.heap.size wd V3 := st_grown b2 gr3 far2)
                | fail)
              all_goals
                have HFIN := Lib.hid (show (∃ A c, v3 = .slice A (sortE ((l.map mkE).take (k + 1))).length c ∧ EntRow V3 w.heap.size (.slice A (sortE ((l.map mkE).take (k + 1))).length c) (sortE ((l.map mkE).take (k + 1)))) ∧ Below w.heap.size w V3 from ⟨by rw [HNW.out]; exact EntRow.shape own3, bj hbel (bj hbd b3)⟩)
                clear own1 own2 own3 gr1 gr2 gr3 at1 at2 at3 far1 far2 b1 b2 b3
                go_wp2
                go_roundw
                case rel => exact ⟨k + 1, by omega, by go_num, HFIN.out.1, HFIN.out.2⟩
                case measure => simp [intOf]; omega
    · obtain rfl : k = n := by omega
      have s1 : ¬ (k : Int) < (k : Int) := by omega
      have HE2 := Lib.hid (show EntsOut w r (.returned (.slice A1 (sortE ((l.map mkE).take k)).length c1)) ws by rw [HE.out]; exact ⟨A1, c1, rfl, hrow0, hbel0⟩)
      clear hlt hrow0
      generalize sortE ((l.map mkE).take k) = L at *
      go_wp2
      go_ret
      exact HE2.out
end Go.Proofs.YtmbhafabphogdaaGreat

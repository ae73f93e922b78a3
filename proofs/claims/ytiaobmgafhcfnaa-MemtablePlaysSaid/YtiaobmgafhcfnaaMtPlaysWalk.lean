/- 'MemtablePlays': the walk. -/
import Derived.Test.YtiaobmgafhcfnaaMtPair
import Derived.Test.YtiaobmgafhcfnaaMtActs
import Derived.Test.YtiaobmgafhcfnaaMtEx
import Derived.Test.YtiaobmgafhcfnaaEntAskRef
import Derived.Test.YtiaobmgafhcfnaaEntLastRef
import Derived.BigQuiet
import Derived.Deep.CutBlock
import Derived.Deep.DeepCutAuto
namespace Go.Proofs.Ytiaobmgafhcfnaa
open Go.RowKit Go.Shelf
set_option linter.unusedVariables false
attribute [local go_sem ↓] Go.wp_at_zero Go.wp_at_succ

theorem pair_new {w w1 : World} (hT : TabAt w1 w.heap.size w.heap.size [w.heap.size] []) (hb : Below w.heap.size w w1) (hlt : w.heap.size < w1.heap.size) :
    Pair w w.heap.size w1.heap.size [] [] [] (w1.alloc (.cells #[.slice none 0 0] 29)) := by
  have ha := (Below.refl w1.heap.size w1).alloc (Nat.le_refl _) (.cells #[.slice none 0 0] 29)
  have B1 : Blok (w1.alloc (.cells #[.slice none 0 0] 29)) w1.heap.size 29 #[.slice none 0 0] := Blok.new _ _ _
  refine ⟨_, [w1.heap.size], hT.below ha, ⟨.slice none 0 0, B1, EntRow.nil _ _, fun k hk => (by cases hk), by simp, fun x hx => ?_, fun x hx => by cases hx⟩, fun x hx hm => ?_, hb.trans (ha.mono hb.size), fun b hb => by cases hb⟩
  · rw [List.mem_singleton.1 hx]
    exact ⟨hb.size, B1.lt⟩
  · rw [List.mem_singleton.1 hx] at hm
    have := List.mem_singleton.1 hm
    omega
namespace memtablePlays
/-- What holds between two rounds. -/
def Stand (w : World) (g gr n : Nat) (W : World) : Prop := ∃ rl, Pair w g gr (sortE rl) rl [] W ∧ (sortE rl).length = rl.length ∧ rl.length ≤ n
def TrueEnd (w : World) (e : Ending) (w' : World) : Prop := e = .returned (.bool true) ∧ Below w.heap.size w w'
set_option maxHeartbeats 8000000 in
set_option maxRecDepth 100000 in
theorem walk_ (w : World) (v : Value) (l : List MAct) (hl : MActsIn w v l) (hok : ∀ x ∈ l, MActOk x) :
    Calls Try.prog 3 #[v] w (TrueEnd w) := by
  have HKK := Lib.hid fun W => kept_true W
  obtain ⟨A, off, cap, rfl, -, hcell⟩ := hl.form
  by_cases hn : l.length ≤ 150
  case neg =>
    clear hl hok hcell
    have t1 : (150 : Int) < (l.length : Int) := by omega
    have t2 : 150 < l.length := by omega
    generalize l.length = n at *
    have H1 := Lib.hid (HKK.out w)
    go_enter Try.func3, Try.ntmps3
    go_wp2_with fail
    refine H1.out.mono ?_
    rintro e w3 ⟨rfl, hb3⟩
    go_wp2
    go_ret
    exact ⟨rfl, hb3⟩
  have HC := Lib.hid hcell
  have HOK := Lib.hid hok
  have t1 : ¬ (150 : Int) < (l.length : Int) := by omega
  have t2 : decide (150 < l.length) = false := decide_eq_false (by omega)
  obtain ⟨n, hnn⟩ : ∃ n, n = l.length := ⟨_, rfl⟩
  have HN := Lib.hid hnn
  rw [← hnn] at t1 t2 hn ⊢
  clear hl hok hcell hnn
  go_enter Try.func3, Try.ntmps3
  go_wp2_with fail
  refine (tnew_any w).mono ?_
  rintro e w1 ⟨rfl, hT, hb, hlt1⟩
  have HP0 := Lib.hid (pair_new hT hb hlt1)
  obtain ⟨g, hg⟩ : ∃ g, w.heap.size = g := ⟨_, rfl⟩
  obtain ⟨gr, hgr⟩ : ∃ gr, w1.heap.size = gr := ⟨_, rfl⟩
  rw [hg, hgr] at HP0
  clear hT hb hlt1
  go_wp2_with fail
  go_loopw [5] (fun i wr => ∃ (k : Nat), k ≤ n ∧ i = .int .i64 k ∧ Stand w g gr k wr) (fun i _ => n - (intOf i).toNat)
  case atStart => exact ⟨0, Nat.zero_le _, rfl, [], HP0.out, rfl, Nat.le_refl _⟩
  case round =>
    obtain ⟨k, hk, rfl, rl, hP, hlen, hrl⟩ := hrel
    obtain ⟨wo, rfl⟩ : ∃ wo : World, wo = wr := ⟨_, rfl⟩
    by_cases hlt : k < n
    · have s1 : (k : Int) < (n : Int) := by omega
      obtain ⟨x, hx⟩ : ∃ x, l[k]? = some x := ⟨_, List.getElem?_eq_getElem (by rw [← HN.out]; exact hlt)⟩
      obtain ⟨b, rfl, hbk, d0, d1, d2, d3, d4⟩ := HC.out k x hx
      have hkp := hP.kept
      have e0 := (hkp.cell (p := ⟨b, off + k * 5, none⟩) hbk).trans d0
      have e1 := (hkp.cell (p := ⟨b, off + k * 5 + 1, none⟩) hbk).trans d1
      have e2 := (hkp.cell (p := ⟨b, off + k * 5 + 2, none⟩) hbk).trans d2
      have e3 := (hkp.cell (p := ⟨b, off + k * 5 + 3, none⟩) hbk).trans d3
      have e4 := (hkp.cell (p := ⟨b, off + k * 5 + 4, none⟩) hbk).trans d4
      have hxok := HOK.out x (List.mem_of_getElem? hx)
      clear hx d0 d1 d2 d3 d4 hkp
      obtain ⟨xk, ⟨xh, xv, xp⟩, xt⟩ := x
      simp only at e0 e1 e2 e3 e4
      go_upto_block 2 with fail
      have HPX := Lib.hid (hP.more ((Below.refl wo.heap.size wo).alloc (Nat.le_refl _) (.cells #[.int .u8 (xk : Nat), .int .u64 (xh : Nat), .int .i64 xv, .int .i64 xp, .int .i64 xt] 34)) (Nat.le_refl _) (b := wo.heap.size) (by simp))
      have EX : Blok (wo.alloc (.cells #[.int .u8 (xk : Nat), .int .u64 (xh : Nat), .int .i64 xv, .int .i64 xp, .int .i64 xt] 34)) wo.heap.size 34 #[.int .u8 (xk : Nat), .int .u64 (xh : Nat), .int .i64 xv, .int .i64 xp, .int .i64 xt] := Blok.new _ _ _
      obtain ⟨ws, hws⟩ : ∃ ws, wo.alloc (.cells #[.int .u8 (xk : Nat), .int .u64 (xh : Nat), .int .i64 xv, .int .i64 xp, .int .i64 xt] 34) = ws := ⟨_, rfl⟩
      obtain ⟨X, hX⟩ : ∃ X, wo.heap.size = X := ⟨_, rfl⟩
      rw [hws, hX] at HPX EX
      obtain ⟨q, hq, hq8⟩ : ∃ q : Nat, ((xk : Int) % 8) = (q : Int) ∧ q < 8 := ⟨xk % 8, rfl, by omega⟩
      rw [hws, hX, hq]
      have HX : Hid (∀ W : World, W.heap[X]? = ws.heap[X]? → W.cell? ⟨X, 1, none⟩ = some (.int .u64 (xh : Nat)) ∧ W.cell? ⟨X, 2, none⟩ = some (.int .i64 xv) ∧ W.cell? ⟨X, 3, none⟩ = some (.int .i64 xp) ∧ W.cell? ⟨X, 4, none⟩ = some (.int .i64 xt)) := Lib.hid fun W hW => by
        have B1 : Blok W X 34 #[.int .u8 (xk : Nat), .int .u64 (xh : Nat), .int .i64 xv, .int .i64 xp, .int .i64 xt] := hW.trans EX
        exact ⟨B1.cell 1, B1.cell 2, B1.cell 3, B1.cell 4⟩
      have hXlt : X < ws.heap.size := EX.lt
      obtain ⟨c1, c2, c3, c4⟩ := HX.out ws rfl
      have HMK := Lib.hid (show EntOk ⟨xh, xv, xp⟩ from hxok.e)
      have HST : Hid (∀ W, Pair w g gr (sortE rl) rl [] W → Stand w g gr (k + 1) W) := Lib.hid fun W hW => ⟨rl, hW, hlen, by omega⟩
      have hl1 : (sortE rl).length ≤ 200 := by omega
      have hl2 : rl.length ≤ 200 := by omega
      have HLEN := Lib.hid hlen
      have hrk : rl.length ≤ k := hrl
      have HSK := Lib.hid hrk
      clear hws hX hq EX hP e0 e1 e2 e3 e4 hxok hrl hrk hlen hbk
      go_cut [] from 22 to 141 (fun wx => Stand w g gr (k + 1) wx)
      case first =>
        by_cases q4 : q = 4
        · subst q4
          have HRG := Lib.hid (trange_run HPX.out.has (by omega) xh xv xt)
          have hRL := List.length_filter_le (inQ xh xv xt) (sortE rl)
          have HRD := Lib.hid fun W hW => (HPX.out.below (w' := W) hW).rdump (by omega)
          have HRR := Lib.hid fun W V (hV : EntsIn W V (sortE rl)) => ranger_any V (sortE rl) xh xv xt W hV (by omega)
          have HRLL : (rangeE (sortE rl) xh xv xt).length ≤ 200 := Nat.le_trans hRL hl1
          clear hRL hl1 hl2
          generalize rangeE (sortE rl) xh xv xt = R at *
          generalize sortE rl = tl at *
          obtain ⟨N7, hN7⟩ : ∃ N7, N7 = R.length := ⟨_, rfl⟩
          have HN7 := Lib.hid hN7
          unfold EntsOut at HRG HRR
          rw [← hN7] at HRG HRLL
          clear hN7
          go_wp2_with fail
          refine HRG.out.mono ?_
          rintro e w4 ⟨A7, c7, rfl, r7, b4⟩
          have HM7 := Lib.hid (show EntsIn w4 (.slice A7 N7 c7) R by rw [HN7.out] at r7 ⊢; exact EntRow.in_ r7)
          have HW4 := Lib.hid (show Wiped w g gr tl rl X A7 N7 w4 by rw [HN7.out] at r7 ⊢; exact Wiped.of_row HPX.out b4 r7)
          have HB4 := Lib.hid b4
          have HS : Hid (∀ W, Below w4.heap.size w4 W → Below w4.heap.size w4 W ∧ W.cell? ⟨X, 1, none⟩ = some (.int .u64 (xh : Nat)) ∧ W.cell? ⟨X, 2, none⟩ = some (.int .i64 xv) ∧ W.cell? ⟨X, 4, none⟩ = some (.int .i64 xt)) := Lib.hid fun W hW => by
            have hX4 : W.heap[X]? = ws.heap[X]? := (hW.block X (by have := b4.size; omega)).trans (b4.block X hXlt)
            obtain ⟨a1, a2, a3, a4⟩ := HX.out W hX4
            exact ⟨hW, a1, a2, a4⟩
          obtain ⟨-, x1, x2, x4⟩ := HS.out w4 (Below.refl _ _)
          clear r7 b4 c1 c2 c3 c4
          have hz : (N7 : Int) ≤ 200 := by omega
          go_wp2_with fail
          go_region_held3 (fun W => Below w4.heap.size w4 W ∧ W.cell? ⟨X, 1, none⟩ = some (.int .u64 (xh : Nat)) ∧ W.cell? ⟨X, 2, none⟩ = some (.int .i64 xv) ∧ W.cell? ⟨X, 4, none⟩ = some (.int .i64 xt))
            (first | (with_reducible assumption) | ((with_reducible refine HS.out _ ?_); (first | (with_reducible assumption) | (with_reducible exact Below.refl _ _) | (with_reducible exact (Below.refl _ _).drew)); done) | fail)
            (first
            | (go_at_call 12; ((with_reducible refine (HRD.out _ (bj HB4.out (And.left (by with_reducible assumption)))).mono ?_); rintro e w5 ⟨A8, c8, rfl, r8, b5⟩; have b45 : Below w4.heap.size w4 w5 := bj (And.left (by with_reducible assumption)) b5))
            | (go_at_call 11; ((with_reducible refine (HRR.out _ _ (EntRow.in_ r8)).mono ?_); rintro e w6 ⟨A9, c9, rfl, r9, b6⟩; have b46 : Below w4.heap.size w4 w6 := bj b45 b6))
            | (go_at_call 10; ((with_reducible refine (same_kept (HM7.out.below b46 (Nat.le_refl _)) (EntRow.in_ r9) (by have := HN7.out; omega) (by have := HN7.out; omega) rfl).mono ?_); rintro e w7 ⟨rfl, b7⟩; have b47 : Below w4.heap.size w4 w7 := bj b46 b7))
            | fail)
          all_goals
            have HW7 := Lib.hid (HW4.out.below b47)
            clear r8 r9 b5 b6 b7 b45 b46 b47 x1 x2 x4
            go_wp2_with fail
            go_loopw [8] (fun i wr => ∃ j : Nat, j ≤ N7 ∧ i = .int .i64 j ∧ Wiped w g gr tl rl X A7 N7 wr) (fun i _ => N7 - (intOf i).toNat)
            case atStart => exact ⟨0, Nat.zero_le _, rfl, HW7.out⟩
            case round =>
              obtain ⟨j, hj, rfl, hW⟩ := hrel
              by_cases hjl : j < N7
              · have z1 : (j : Int) < (N7 : Int) := by omega
                obtain ⟨b', o', rfl, hc, hW2⟩ := hW.put hjl (.int .u64 99) (.int .i64 0) (.int .i64 0)
                obtain ⟨⟨y0, y0c⟩, f0⟩ := hc 0 (by omega)
                obtain ⟨⟨y1, y1c⟩, f1⟩ := hc 1 (by omega)
                obtain ⟨⟨y2, y2c⟩, f2⟩ := hc 2 (by omega)
                rw [Nat.add_zero] at y0c f0
                have HW2 := Lib.hid hW2
                clear hc hW2 hW
                go_wp2
                go_roundw
                case rel => exact ⟨j + 1, by omega, by go_num, HW2.out⟩
                case measure => simp [intOf]; omega
              · obtain rfl : N7 = j := by omega
                have z1 : ¬ (N7 : Int) < (N7 : Int) := by omega
                have HP8 := Lib.hid (hW.pair.less (E' := []) (fun x hx => by cases hx))
                clear hW
                go_wp2
                go_meet
                exact HST.out _ HP8.out
        by_cases q5 : q = 5
        · subst q5
          have HLA := Lib.hid (tlast_run HPX.out.has (by omega) xh xv)
          have HRD := Lib.hid fun W hW => (HPX.out.below (w' := W) hW).rdump (by omega)
          have HRR := Lib.hid fun W V (hV : EntsIn W V (sortE rl)) => lastr_any V (sortE rl) xh xv W hV (by omega)
          have HPB := Lib.hid fun W hW => HST.out W ((HPX.out.below (w' := W) hW).less (E' := []) (fun x hx => by cases hx))
          clear hl1 hl2
          generalize lastE (sortE rl) xh xv = E at *
          generalize lastOk (sortE rl) xh xv = ok at *
          generalize sortE rl = tl at *
          unfold EntsOut at HRD
          go_wp2_with fail
          refine HLA.out.mono ?_
          rintro e w4 ⟨rfl, b4⟩
          have b5 := b4.alloc b4.size (.cells #[.int .u64 (E.h : Nat), .int .i64 E.v, .int .i64 E.p] 32)
          have T5 := mt_new w4 E ok
          obtain ⟨Eh, Ev, Ep⟩ := E
          go_upto_region 22 with fail
          obtain ⟨w5, hw5⟩ : ∃ w5, w4.alloc (.cells #[.int .u64 (Eh : Nat), .int .i64 Ev, .int .i64 Ep] 32) = w5 := ⟨_, rfl⟩
          obtain ⟨Y, hY⟩ : ∃ Y, w4.heap.size = Y := ⟨_, rfl⟩
          rw [hw5, hY]
          rw [hw5] at b5 T5
          rw [hY] at T5
          obtain ⟨Y', hY', -, EY⟩ := T5
          obtain rfl : Y = Y' := by simpa using hY'
          have HB5 := Lib.hid b5
          have HS : Hid (∀ W, Below w5.heap.size w5 W → Below w5.heap.size w5 W ∧ W.cell? ⟨X, 1, none⟩ = some (.int .u64 (xh : Nat)) ∧ W.cell? ⟨X, 2, none⟩ = some (.int .i64 xv)) := Lib.hid fun W hW => by
            have hX4 : W.heap[X]? = ws.heap[X]? := (hW.block X (by have := b5.size; omega)).trans (b5.block X hXlt)
            obtain ⟨a1, a2, a3, a4⟩ := HX.out W hX4
            exact ⟨hW, a1, a2⟩
          have HEY : Hid (∀ W, Below w5.heap.size w5 W → EnAt W Y Eh Ev Ep) := Lib.hid fun W hW => EY.touch (Touch.of_below hW) (by simp)
          clear hw5 hY hY' EY b4 b5 c1 c2 c3 c4
          go_cut [11, 12] from 22 to 141 (fun u v wx => MtTold ⟨Eh, Ev, Ep⟩ ok u v wx ∧ Below w5.heap.size w5 wx)
          case first =>
            obtain ⟨-, x1, x2⟩ := HS.out w5 (Below.refl _ _)
            go_wp2_with fail
            go_region_held3 (fun W => Below w5.heap.size w5 W ∧ W.cell? ⟨X, 1, none⟩ = some (.int .u64 (xh : Nat)) ∧ W.cell? ⟨X, 2, none⟩ = some (.int .i64 xv))
              (first | (with_reducible assumption) | ((with_reducible refine HS.out _ ?_); (repeat' (first | (with_reducible assumption) | (with_reducible exact Below.refl _ _) | (with_reducible exact Nat.le_refl _) | (with_reducible refine Below.drew ?_) | (with_reducible refine st_alloc ?_ _) | (with_reducible refine mt_one ?_ ?_) | (with_reducible exact Below.size b56) | exact Below.size (And.left (by with_reducible assumption)))); done) | fail)
              (first
              | (go_at_call 12; ((with_reducible refine (HRD.out _ (bj HB5.out (And.left (by with_reducible assumption)))).mono ?_); rintro e w6 ⟨A8, c8, rfl, r8, b6⟩; have b56 : Below w5.heap.size w5 w6 := bj (And.left (by with_reducible assumption)) b6; (with_reducible (try (have A1 := Blok.below (Blok.drew (Blok.new _ _ _)) b6; obtain ⟨A1c0, A1c1, A1c2, A1f0, A1f1, A1f2⟩ := mt_blok A1)))))
              | (go_at_call 14; ((with_reducible refine (HRR.out _ _ (by first | exact EntRow.in_ r8 | exact EntsIn.alloc (EntRow.in_ r8) _)).mono ?_); rintro e w7 ⟨rfl, b7⟩; have b57 : Below w5.heap.size w5 w7 := bj (And.left (by with_reducible assumption)) b7; (with_reducible (try (have A2 := Blok.below A1 b7; obtain ⟨A2c0, A2c1, A2c2, A2f0, A2f1, A2f2⟩ := mt_blok A2))); (with_reducible (try (have A3 := Blok.below (Blok.new _ _ _) b7; obtain ⟨A3c0, A3c1, A3c2, A3f0, A3f1, A3f2⟩ := mt_blok A3)))))
              | fail)
            all_goals
              go_step
              go_step
              go_meet
              first
              | exact ⟨mt_new _ ⟨Eh, Ev, Ep⟩ ok, st_alloc b57 _⟩
              | exact ⟨mt_put A2 ⟨Eh, Ev, Ep⟩ ok, mt_three b57 (Nat.le_refl _) _ _ _⟩
              | exact ⟨mt_put A3 ⟨Eh, Ev, Ep⟩ ok, mt_three b57 b56.size _ _ _⟩
          case rest =>
            obtain ⟨⟨Z, rfl, rfl, EZ⟩, b8⟩ := hcut
            obtain ⟨w8, rfl⟩ : ∃ w8 : World, w8 = wc := ⟨_, rfl⟩
            obtain ⟨a0, a1, a2, -, -, -⟩ := mt_blok EZ
            obtain ⟨y0, y1, y2, -, -, -⟩ := mt_blok (HEY.out _ b8)
            have hne := fun W => ent_neq ⟨Eh, Ev, Ep⟩ ⟨Eh, Ev, Ep⟩ W
            rw [decide_eq_true rfl] at hne
            have HFIN := Lib.hid (HPB.out _ (bj HB5.out b8))
            clear EZ b8
            go_wp2
            go_meet
            exact HFIN.out
        by_cases q6 : q = 6
        · subst q6
          have HDU := Lib.hid (tdump_run HPX.out.has (by omega))
          generalize sortE rl = tl at *
          obtain ⟨N7, hN7⟩ : ∃ N7, N7 = tl.length := ⟨_, rfl⟩
          have HN7 := Lib.hid hN7
          unfold EntsOut at HDU
          rw [← hN7] at HDU
          clear hN7
          go_wp2_with fail
          refine HDU.out.mono ?_
          rintro e w4 ⟨A7, c7, rfl, r7, b4⟩
          have HW7 := Lib.hid (show Wiped w g gr tl rl X A7 N7 w4 by rw [HN7.out] at r7 ⊢; exact Wiped.of_row HPX.out b4 r7)
          clear r7 b4 c1 c2 c3 c4
          have hz : (N7 : Int) ≤ 200 := by have := HN7.out; omega
          go_wp2_with fail
          go_loopw [14] (fun i wr => ∃ j : Nat, j ≤ N7 ∧ i = .int .i64 j ∧ Wiped w g gr tl rl X A7 N7 wr) (fun i _ => N7 - (intOf i).toNat)
          case atStart => exact ⟨0, Nat.zero_le _, rfl, HW7.out⟩
          case round =>
            obtain ⟨j, hj, rfl, hW⟩ := hrel
            by_cases hjl : j < N7
            · have z1 : (j : Int) < (N7 : Int) := by omega
              obtain ⟨b', o', rfl, hc, hW2⟩ := hW.put hjl (.int .u64 99) (.int .i64 0) (.int .i64 0)
              obtain ⟨⟨y0, y0c⟩, f0⟩ := hc 0 (by omega)
              obtain ⟨⟨y1, y1c⟩, f1⟩ := hc 1 (by omega)
              obtain ⟨⟨y2, y2c⟩, f2⟩ := hc 2 (by omega)
              rw [Nat.add_zero] at y0c f0
              have HW2 := Lib.hid hW2
              clear hc hW2 hW
              go_wp2
              go_roundw
              case rel => exact ⟨j + 1, by omega, by go_num, HW2.out⟩
              case measure => simp [intOf]; omega
            · obtain rfl : N7 = j := by omega
              have z1 : ¬ (N7 : Int) < (N7 : Int) := by omega
              have HP8 := Lib.hid (hW.pair.less (E' := []) (fun x hx => by cases hx))
              clear hW
              go_wp2
              go_meet
              exact HST.out _ HP8.out
        by_cases q7 : q = 7
        · subst q7
          have HCL := Lib.hid HPX.out.clear
          go_wp2_with fail
          refine HCL.out.mono ?_
          rintro e w4 ⟨rfl, hP4, hk4⟩
          obtain ⟨A9, c9, g0, f9⟩ := hP4.cell
          have HFIN := Lib.hid (hP4.wipe.less (E' := []) (fun x hx => by cases hx))
          clear hP4 hk4 c1 c2 c3 c4
          generalize rl.length = N9 at *
          go_wp2
          go_meet
          exact ⟨[], HFIN.out, rfl, Nat.zero_le _⟩
        · have f4 : ((q : Int) == 4) = false := beq_eq_false_iff_ne.2 (by omega)
          have f5 : ((q : Int) == 5) = false := beq_eq_false_iff_ne.2 (by omega)
          have f6 : ((q : Int) == 6) = false := beq_eq_false_iff_ne.2 (by omega)
          have f7 : ((q : Int) == 7) = false := beq_eq_false_iff_ne.2 (by omega)
          have hdec : decide ((⟨xh, xv, xp⟩ : EntS) ∈ sortE rl) = decide ((⟨xh, xv, xp⟩ : EntS) ∈ rl) := decide_eq_decide.2 mem_sort
          have HA1 := Lib.hid (HPX.out.drew.add HMK.out (by omega))
          rw [hdec] at HA1
          have HA2 := Lib.hid fun W (hW : Pair w g gr (layEn (sortE rl) ⟨xh, xv, xp⟩) rl [X] W) => hW.radd HMK.out (by omega)
          have HFIN : Hid (∀ W, Pair w g gr (layEn (sortE rl) ⟨xh, xv, xp⟩) (moreE rl ⟨xh, xv, xp⟩) [X] W → Stand w g gr (k + 1) W) := Lib.hid fun W hW =>
            ⟨moreE rl ⟨xh, xv, xp⟩, by rw [more_sort]; exact hW.less (fun x hx => by cases hx), more_same HLEN.out, by have := more_length rl ⟨xh, xv, xp⟩; have := HSK.out; omega⟩
          clear hdec HST HLEN HSK hl1 hl2
          generalize (!decide ((⟨xh, xv, xp⟩ : EntS) ∈ rl)) = qb at *
          generalize layEn (sortE rl) ⟨xh, xv, xp⟩ = tl2 at *
          generalize moreE rl ⟨xh, xv, xp⟩ = rl2 at *
          clear q4 q5 q6 q7
          go_wp2_with fail
          go_region_held3 (fun W => W.cell? ⟨X, 1, none⟩ = some (.int .u64 (xh : Nat)) ∧ W.cell? ⟨X, 2, none⟩ = some (.int .i64 xv) ∧ W.cell? ⟨X, 3, none⟩ = some (.int .i64 xp) ∧ W.cell? ⟨X, 4, none⟩ = some (.int .i64 xt))
            (first | (with_reducible assumption) | ((with_reducible refine HX.out _ ?_); (first | (with_reducible assumption) | rfl); done) | fail)
            (first
            | (go_at_call 17; ((with_reducible refine HA1.out.mono ?_); rintro e w4 ⟨rfl, hP4, hk4⟩; have k4 : w4.heap[X]? = ws.heap[X]? := hk4 X (by simp)))
            | (go_at_call 18; ((with_reducible refine (HA2.out _ hP4).mono ?_); rintro e w5 ⟨rfl, hP5, hk5⟩; have k5 : w5.heap[X]? = ws.heap[X]? := (hk5 X (by simp)).trans k4))
            | fail)
          all_goals
            have HFF := Lib.hid (HFIN.out _ hP5)
            clear hP4 hP5 hk4 hk5 HFIN HA1 HA2
            go_wp2
            go_meet
            exact HFF.out
      case rest =>
        obtain ⟨rl2, hP2, hlen2, hrl2⟩ := hcut
        obtain ⟨w6, rfl⟩ : ∃ w6 : World, w6 = wc := ⟨_, rfl⟩
        obtain ⟨A9, c9, g0, -⟩ := hP2.cell
        have HLN := Lib.hid fun m => (hP2.drewN m).len
        rw [hlen2] at HLN
        have HFIN : Hid (∀ m, Stand w g gr (k + 1) (w6.drewN m)) := Lib.hid fun m => ⟨rl2, hP2.drewN m, hlen2, hrl2⟩
        clear hP2 hlen2 hrl2 HST HPX HX HMK hl1 hl2 HLEN HSK c1 c2 c3 c4
        generalize rl2.length = N9 at *
        go_wp2_with fail
        go_quiet ((go_at_call 19; exact Calls.quiet_of_same ((HLN.out _).mono fun _ _ h => ⟨h.1, h.2.symm⟩)))
        go_wp2
        exact ⟨⟨k + 1, by omega, by go_num, HFIN.out _⟩, by simp [intOf]; omega⟩
    · obtain rfl : n = k := by omega
      have s1 : ¬ (n : Int) < (n : Int) := by omega
      have hl1 : (sortE rl).length ≤ 200 := by omega
      have HD1 := Lib.hid (tdump_run hP.has (by omega))
      have HPP := Lib.hid hP
      have hl2 : rl.length ≤ 200 := by omega
      have HD2 := Lib.hid fun W hW => (hP.below (w' := W) hW).rdump (by omega)
      clear hP hlen hrl
      generalize sortE rl = tl at *
      obtain ⟨N7, hN7⟩ : ∃ N7, N7 = tl.length := ⟨_, rfl⟩
      have HN7 := Lib.hid hN7
      unfold EntsOut at HD1 HD2
      rw [← hN7] at HD1 HD2
      clear hN7
      go_wp2_with fail
      refine HD1.out.mono ?_
      rintro e w4 ⟨A7, c7, rfl, r7, b4⟩
      go_wp2_with fail
      refine (HD2.out _ b4).mono ?_
      rintro e w5 ⟨A8, c8, rfl, r8, b5⟩
      have hin7 : EntsIn w5 (.slice A7 N7 c7) tl := by rw [HN7.out] at r7 ⊢; exact (EntRow.in_ r7).below b5 (Nat.le_refl _)
      have hin8 : EntsIn w5 (.slice A8 N7 c8) tl := by rw [HN7.out] at r8 ⊢; exact EntRow.in_ r8
      have HSM := Lib.hid (same_kept hin7 hin8 (by omega) (by omega) rfl)
      clear r7 r8 hin7 hin8
      go_wp2_with fail
      refine HSM.out.mono ?_
      rintro e w6 ⟨rfl, b6⟩
      go_wp2_with fail
      refine (HKK.out _).mono ?_
      rintro e w7 ⟨rfl, b7⟩
      go_wp2
      go_ret
      exact ⟨rfl, bj HPP.out.kept (bj (bj b4 b5) (bj b6 b7))⟩
theorem walk (w : World) (v : Value) (l : List MAct) (hl : MActsIn w v l) (hok : ∀ x ∈ l, MActOk x) :
    Calls Try.prog 3 #[v] w fun e w' => e = .returned (.bool true) ∧ Below w.heap.size w w' := walk_ w v l hl hok
end memtablePlays
end Go.Proofs.Ytiaobmgafhcfnaa

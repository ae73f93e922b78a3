/- The walk of PagesHas. -/
import Derived.Test.YtfnppmiapjhjlaaPgStart
import Derived.Test.YtfnppmiapjhjlaaBlHas
namespace Go.Proofs.Ytfnppmiapjhjlaa.PgHs
open Go.RowKit
set_option linter.unusedVariables false

theorem long (v vm : Value) (l m : List Nat) (x y : Int) (w : World) (hv : RowOf u64V w v l) (hvm : RowOf u64V w vm m) (hl : 60 < l.length ∨ 20 < m.length) :
    Calls Try.prog 6 #[v, vm, .agg #[.int .u8 x, .int .u8 y]] w fun e w' => e = .returned (.bool true) ∧ Below w.heap.size w w' := by
  obtain ⟨A, c, rfl⟩ := hv.form
  obtain ⟨B, d, rfl⟩ := hvm.form
  have HE := Lib.hid paged_true
  have hb0 : Below w.heap.size w (w.alloc (.cells #[.int .u8 x, .int .u8 y] 34)) := (Below.refl _ w).alloc (Nat.le_refl _) _
  by_cases h : 60 < l.length
  · have l1 : (60 : Int) < (l.length : Int) := by omega
    go_enter Try.func6, Try.ntmps6
    go_wp2_with fail
    refine (HE.out _).mono ?_
    rintro e w2 ⟨rfl, hb2⟩
    go_wp2
    go_ret
    exact ⟨rfl, bj hb0 hb2⟩
  · have l1 : ¬ (60 : Int) < (l.length : Int) := by omega
    have l2 : (20 : Int) < (m.length : Int) := by omega
    go_enter Try.func6, Try.ntmps6
    go_wp2_with fail
    refine (HE.out _).mono ?_
    rintro e w2 ⟨rfl, hb2⟩
    go_wp2
    go_ret
    exact ⟨rfl, bj hb0 hb2⟩

set_option maxHeartbeats 4000000 in
set_option maxRecDepth 100000 in
theorem short (v vm : Value) (l mo : List Nat) (x y : Nat) (w : World) (hv : RowOf u64V w v l) (hvm : RowOf u64V w vm mo) (wl : Words l) (wm : Words mo) (hx : x < 256) (hy : y < 256) (hl : l.length ≤ 60) (hlm : mo.length ≤ 20) :
    Calls Try.prog 6 #[v, vm, .agg #[.int .u8 (x : Nat), .int .u8 (y : Nat)]] w fun e w' => e = .returned (.bool true) ∧ Below w.heap.size w w' := by
  obtain ⟨A, c, rfl⟩ := hv.form
  obtain ⟨B, d, rfl⟩ := hvm.form
  obtain ⟨p, q, n, m, N⟩ := nums_any x y
  obtain ⟨w1, hw1⟩ : ∃ w1, w.alloc (.cells #[.int .u8 (x : Nat), .int .u8 (y : Nat)] 34) = w1 := ⟨_, rfl⟩
  have hB1 : Below w.heap.size w w1 := by rw [← hw1]; exact (Below.refl _ w).alloc (Nat.le_refl _) _
  obtain ⟨c0, c1⟩ : w1.cell? ⟨w.heap.size, 0, none⟩ = some (.int .u8 (x : Nat)) ∧ w1.cell? ⟨w.heap.size, 1, none⟩ = some (.int .u8 (y : Nat)) := by rw [← hw1]; exact pg_two w x y _
  have HW1 := Lib.hid hw1
  have l1 : ¬ (60 : Int) < (l.length : Int) := by omega
  have l2 : ¬ (20 : Int) < (mo.length : Int) := by omega
  have HE := Lib.hid paged_true
  have ex := N.ex
  have ey := N.ey
  have hV1 := hv.below hB1 (Nat.le_refl _)
  have hVm1 := hvm.below hB1 (Nat.le_refl _)
  have HM := Lib.hid (make_any _ l p m w1 hV1 wl (by omega) N.wp N.wm)
  have hSz := N.put_size l
  have HAS := Lib.hid (N.has l)
  have HYES := Lib.hid fun (g : Nat) (hg : g ∈ l) => N.keep l hg (keep_refl _)
  have hsa := N.size l
  have HP := Lib.hid fun W => pput_any (bs (makeL l p (m : Nat))) p W
  have h5 := N.q5
  have HN := Lib.hid N
  obtain ⟨a, ha⟩ : ∃ a, bs (makeL l p (m : Nat)) = a := ⟨_, rfl⟩
  rw [ha] at HM HP HAS HYES hsa hSz
  obtain ⟨S, hS⟩ : ∃ S, putP a p = S := ⟨_, rfl⟩
  rw [hS] at HP HAS HYES hSz
  have HL := Lib.hid fun W => load_any S W (by omega)
  have HMY := Lib.hid fun f (g : Nat) W (hg : g < 18446744073709551616) h => may_any f g S W hg h
  have HHA := Lib.hid fun (g : Nat) (hg : g < 18446744073709551616) W => has_any p g a W hg N.wp (by have := N.hn; omega)
  have l3 : (0 : Int) < (a.size : Int) := by have := N.hn; omega
  have HB1 := Lib.hid hB1
  have HV := Lib.hid (And.intro hV1 hVm1)
  clear hw1 hv hvm ha hS hSz hsa h5 N hV1 hVm1 hB1
  go_enter Try.func6, Try.ntmps6
  go_wp2_with fail
  rw [HW1.out]
  refine HM.out.mono ?_
  rintro e w2 ⟨rfl, b2⟩
  go_wp2_with fail
  refine (HP.out _).mono ?_
  rintro e w3 ⟨rfl, b3⟩
  go_wp2_with fail
  refine (HL.out _).mono ?_
  rintro e w4 ⟨f, rfl, hf, b4⟩
  have b14 := bj (bj b2 b3) b4
  obtain ⟨f0, f1, f2, rfl⟩ := hf.form
  have HF := Lib.hid hf
  have HB4 := Lib.hid b14
  clear hf b2 b3 b4 b14 c0 c1
  go_wp2_with fail
  have hB5 := Blok.new w4 28 #[.int .i64 f0, .int .i64 f1, .map f2]
  have hb5 := (Below.refl w4.heap.size w4).alloc (Nat.le_refl _) (.cells #[.int .i64 f0, .int .i64 f1, .map f2] 28)
  obtain ⟨w5, hw5⟩ : ∃ w5, w4.alloc (.cells #[.int .i64 f0, .int .i64 f1, .map f2] 28) = w5 := ⟨_, rfl⟩
  rw [hw5] at hB5 hb5 ⊢
  obtain ⟨fb, hfb⟩ : ∃ fb, w4.heap.size = fb := ⟨_, rfl⟩
  have hF5 := HF.out.below hb5
  have hV5 := HV.out.1.below (bj HB4.out hb5) (Nat.le_refl _)
  have hVm5 := HV.out.2.below (bj HB4.out hb5) (Nat.le_refl _)
  have HB5 := Lib.hid (bj HB1.out (bj HB4.out hb5))
  rw [hfb] at hB5 ⊢
  have HH := Lib.hid (And.intro hB5 hF5)
  clear hw5 hfb hb5 hB5 hF5 HF HB4 HB1
  go_loopw [10] (fun ii wr => ∃ k : Nat, k ≤ l.length ∧ ii = .int .i64 k ∧ Below w5.heap.size w5 wr) (fun ii _ => l.length - (intOf ii).toNat)
  case atStart => exact ⟨0, Nat.zero_le _, rfl, Below.refl _ _⟩
  case round =>
    obtain ⟨k, hk, rfl, hbel⟩ := hrel
    by_cases hlt : k < l.length
    · obtain ⟨q0, off, rfl, hb0, hcap, hcell⟩ := hV5.at (by omega)
      have hcx := fun W (hW : Below w5.heap.size w5 W) => (hW.cell (p := ⟨q0, off + k, none⟩) hb0).trans (hcell k hlt)
      have hg := words_at wl k
      have hgm : l.getD k 0 ∈ l := by rw [List.getD_eq_getElem?_getD, List.getElem?_eq_getElem hlt]; exact List.getElem_mem hlt
      unfold u64V at hcx
      generalize l.getD k 0 = g at *
      have hyes := HYES.out g hgm
      have HS : Hid (∀ W, Below wr.heap.size wr W → Below wr.heap.size wr W ∧ W.cell? ⟨fb, 0, none⟩ = some (.int .i64 f0) ∧ W.cell? ⟨fb, 1, none⟩ = some (.int .i64 f1) ∧ W.cell? ⟨fb, 2, none⟩ = some (.map f2) ∧ W.cell? ⟨q0, off + k, none⟩ = some (.int .u64 (g : Nat))) :=
        Lib.hid fun W hW => ⟨hW, (HH.out.1.after (bj hbel hW)).cell 0, (HH.out.1.after (bj hbel hW)).cell 1, (HH.out.1.after (bj hbel hW)).cell 2, hcx W (bj hbel hW)⟩
      have HK1 := Lib.hid fun W (hW : Below wr.heap.size wr W) => HMY.out _ g W hg (HH.out.2.below (bj hbel hW))
      rw [hyes] at HK1
      obtain ⟨-, d0, d1, d2, d3⟩ := HS.out wr (Below.refl _ _)
      have HBL := Lib.hid hbel
      have s3 : (k : Int) < (l.length : Int) := by omega
      clear hbel hcx hcell hyes
      go_wp2_with fail
      go_region_held3 (fun W => Below wr.heap.size wr W ∧ W.cell? ⟨fb, 0, none⟩ = some (.int .i64 f0) ∧ W.cell? ⟨fb, 1, none⟩ = some (.int .i64 f1) ∧ W.cell? ⟨fb, 2, none⟩ = some (.map f2) ∧ W.cell? ⟨q0, off + k, none⟩ = some (.int .u64 (g : Nat)))
        (first | (with_reducible assumption) | ((with_reducible refine HS.out _ ?_); (repeat' (first | (with_reducible assumption) | (with_reducible exact Below.refl _ _) | (with_reducible refine Below.drew ?_))); done) | fail)
        (first
        | (go_at_call 13; ((with_reducible refine (HK1.out _ (And.left (by with_reducible assumption))).mono ?_); rintro e w' ⟨rfl, hb⟩; have hB2 := hold_pg hb (by with_reducible assumption)))
        | fail)
      all_goals
        go_wp2
        go_roundw
        case rel => exact ⟨k + 1, hlt, by go_num, bj HBL.out (And.left (by with_reducible assumption))⟩
        case measure => simp [intOf]; omega
    · obtain rfl : k = l.length := by omega
      have s3 : ¬ (l.length : Int) < (l.length : Int) := by omega
      obtain ⟨wz, rfl⟩ : ∃ wz, wz = wr := ⟨_, rfl⟩
      have HBZ := Lib.hid (bj HB5.out hbel)
      have hVz := hVm5.below hbel (Nat.le_refl _)
      have HHZ := Lib.hid (And.intro (HH.out.1.after hbel) (HH.out.2.below hbel))
      clear hbel hV5 hVm5 HH HB5
      go_wp2_with fail
      go_loopw [11] (fun ii wr => ∃ k : Nat, k ≤ mo.length ∧ ii = .int .i64 k ∧ Below wz.heap.size wz wr) (fun ii _ => mo.length - (intOf ii).toNat)
      case atStart => exact ⟨0, Nat.zero_le _, rfl, Below.refl _ _⟩
      case round =>
        obtain ⟨k, hk, rfl, hbel⟩ := hrel
        by_cases hlt : k < mo.length
        · obtain ⟨q0, off, rfl, hb0, hcap, hcell⟩ := hVz.at (by omega)
          have hcx := fun W (hW : Below wz.heap.size wz W) => (hW.cell (p := ⟨q0, off + k, none⟩) hb0).trans (hcell k hlt)
          have hg := words_at wm k
          unfold u64V at hcx
          generalize mo.getD k 0 = g at *
          have hhas := HAS.out g
          have HS : Hid (∀ W, Below wr.heap.size wr W → Below wr.heap.size wr W ∧ W.cell? ⟨fb, 0, none⟩ = some (.int .i64 f0) ∧ W.cell? ⟨fb, 1, none⟩ = some (.int .i64 f1) ∧ W.cell? ⟨fb, 2, none⟩ = some (.map f2) ∧ W.cell? ⟨q0, off + k, none⟩ = some (.int .u64 (g : Nat))) :=
            Lib.hid fun W hW => ⟨hW, (HHZ.out.1.after (bj hbel hW)).cell 0, (HHZ.out.1.after (bj hbel hW)).cell 1, (HHZ.out.1.after (bj hbel hW)).cell 2, hcx W (bj hbel hW)⟩
          have HK1 := Lib.hid fun W (hW : Below wr.heap.size wr W) => HMY.out _ g W hg (HHZ.out.2.below (bj hbel hW))
          have HK2 := Lib.hid fun W => HHA.out g hg W
          rw [hhas] at HK1
          obtain ⟨-, d0, d1, d2, d3⟩ := HS.out wr (Below.refl _ _)
          have HBL := Lib.hid hbel
          have s4 : (k : Int) < (mo.length : Int) := by omega
          clear hhas
          generalize hasL a.data.toList p g = qq at *
          have e1 : (qq != qq) = false := by simp
          clear hbel hcx hcell
          go_wp2_with fail
          go_region_held3 (fun W => Below wr.heap.size wr W ∧ W.cell? ⟨fb, 0, none⟩ = some (.int .i64 f0) ∧ W.cell? ⟨fb, 1, none⟩ = some (.int .i64 f1) ∧ W.cell? ⟨fb, 2, none⟩ = some (.map f2) ∧ W.cell? ⟨q0, off + k, none⟩ = some (.int .u64 (g : Nat)))
            (first | (with_reducible assumption) | ((with_reducible refine HS.out _ ?_); (repeat' (first | (with_reducible assumption) | (with_reducible exact Below.refl _ _) | (with_reducible refine Below.drew ?_))); done) | fail)
            (first
            | (go_at_call 13; ((with_reducible refine (HK1.out _ (And.left (by with_reducible assumption))).mono ?_); rintro e w' ⟨rfl, hb⟩; have hB2 := hold_pg hb (by with_reducible assumption)))
            | (go_at_call 18; ((with_reducible refine (HK2.out _).mono ?_); rintro e w' ⟨rfl, hb⟩; have hB2 := hold_pg hb (by with_reducible assumption)))
            | fail)
          all_goals
            go_wp2
            go_roundw
            case rel => exact ⟨k + 1, hlt, by go_num, bj HBL.out (And.left (by with_reducible assumption))⟩
            case measure => simp [intOf]; omega
        · obtain rfl : k = mo.length := by omega
          have s4 : ¬ (mo.length : Int) < (mo.length : Int) := by omega
          have HBY := Lib.hid (bj HBZ.out hbel)
          clear hbel
          go_wp2_with fail
          refine (HE.out _).mono ?_
          rintro e w9 ⟨rfl, hb9⟩
          go_wp2
          go_ret
          exact ⟨rfl, bj HBY.out hb9⟩

theorem walk (w : World) (v : Value) (l : List Nat) (vm : Value) (m : List Nat) (x y : Int) (hv : RowOf u64V w v l) (wl : Words l) (hvm : RowOf u64V w vm m) (wm : Words m) (wx : (Lit.int .u8 x).wf = true) (wy : (Lit.int .u8 y).wf = true) :
    Calls Try.prog 6 #[v, vm, .agg #[.int .u8 x, .int .u8 y]] w fun e w' => e = .returned (.bool true) ∧ Below w.heap.size w w' := by
  by_cases h : l.length ≤ 60 ∧ m.length ≤ 20
  · obtain ⟨a, rfl, ha⟩ := u8_nat wx
    obtain ⟨b, rfl, hb⟩ := u8_nat wy
    exact short v vm l m a b w hv hvm wl wm ha hb h.1 h.2
  · exact long v vm l m x y w hv hvm (by omega)
end Go.Proofs.Ytfnppmiapjhjlaa.PgHs

/- PgSpoWalk, PgKeepWalk, PgNearWalk -/
import Derived.Test.YtfnppmiapjhjlaaPk15
import Derived.Test.YtfnppmiapjhjlaaPk16
import Derived.Test.YtfnppmiapjhjlaaPk17
import Derived.BigQuiet
import Derived.BigRegion
/- PgSpoWalk -/
namespace Go.Proofs.Ytfnppmiapjhjlaa.PgSp
open Go.RowKit
set_option linter.unusedVariables false

theorem long (v x : Value) (l : List Nat) (a b : Int) (w : World) (hv : RowOf u64V w v l) (hx : SpoIn w x) (hl : 60 < l.length) :
    Calls Try.prog 5 #[v, .agg #[.int .u8 a, .int .u8 b], x] w fun e w' => e = .returned (.bool true) ∧ Below w.heap.size w w' := by
  obtain ⟨A, c, rfl⟩ := hv.form
  obtain ⟨u, z, k, s, la, lb, rfl, -⟩ := hx
  unfold spoV
  have HE := Lib.hid paged_true
  have l1 : (60 : Int) < (l.length : Int) := by omega
  have hb0 : Below w.heap.size w ((w.alloc (.cells #[.int .u8 a, .int .u8 b] 34)).alloc (.cells #[u, z, .int .u16 k, .string s] 39)) := ((Below.refl _ w).alloc (Nat.le_refl _) _).alloc (by simp) _
  go_enter Try.func5, Try.ntmps5
  go_wp2_with fail
  refine (HE.out _).mono ?_
  rintro e w2 ⟨rfl, hb2⟩
  go_wp2
  go_ret
  exact ⟨rfl, bj hb0 hb2⟩

theorem plus_any (g k : Nat) (hk : k < 1000) : ∃ z : Nat, IntKind.u64.wrap ((g : Int) + IntKind.u64.wrap (k : Int)) = (z : Int) ∧ z < 18446744073709551616 := ⟨(g + k) % 18446744073709551616, by rw [IntKind.wrap_u64, IntKind.wrap_u64]; omega, Nat.mod_lt _ (by decide)⟩

set_option maxHeartbeats 4000000 in
set_option maxRecDepth 100000 in
theorem short (v xx : Value) (l : List Nat) (x y : Nat) (w : World) (hv : RowOf u64V w v l) (wl : Words l) (hxx : SpoIn w xx) (hx : x < 256) (hy : y < 256) (hl : l.length ≤ 60) :
    Calls Try.prog 5 #[v, .agg #[.int .u8 (x : Nat), .int .u8 (y : Nat)], xx] w fun e w' => e = .returned (.bool true) ∧ Below w.heap.size w w' := by
  obtain ⟨A, c, rfl⟩ := hv.form
  have HSP := Lib.hid fun W (hW : Below w.heap.size w W) => hxx.below hW (Nat.le_refl _)
  obtain ⟨su, sv, sk, ss, la, lb, rfl, -⟩ := hxx
  unfold spoV at HSP ⊢
  obtain ⟨p, q, n, m, N⟩ := nums_any x y
  have hBa := (Blok.new w 34 #[.int .u8 (x : Nat), .int .u8 (y : Nat)]).alloc (.cells #[su, sv, .int .u16 sk, .string ss] 39)
  have hBs := Blok.new (w.alloc (.cells #[.int .u8 (x : Nat), .int .u8 (y : Nat)] 34)) 39 #[su, sv, .int .u16 sk, .string ss]
  have hB1 : Below w.heap.size w ((w.alloc (.cells #[.int .u8 (x : Nat), .int .u8 (y : Nat)] 34)).alloc (.cells #[su, sv, .int .u16 sk, .string ss] 39)) := ((Below.refl _ w).alloc (Nat.le_refl _) _).alloc (by simp) _
  have hsz : (w.alloc (.cells #[.int .u8 (x : Nat), .int .u8 (y : Nat)] 34)).heap.size = w.heap.size + 1 := by simp
  rw [hsz] at hBs
  obtain ⟨w1, hw1⟩ : ∃ w1, (w.alloc (.cells #[.int .u8 (x : Nat), .int .u8 (y : Nat)] 34)).alloc (.cells #[su, sv, .int .u16 sk, .string ss] 39) = w1 := ⟨_, rfl⟩
  rw [hw1] at hB1 hBa hBs
  have HS0 : Hid (∀ W, Below w1.heap.size w1 W → Below w1.heap.size w1 W ∧ W.cell? ⟨w.heap.size, 0, none⟩ = some (.int .u8 (x : Nat)) ∧ W.cell? ⟨w.heap.size, 1, none⟩ = some (.int .u8 (y : Nat)) ∧ W.cell? ⟨w.heap.size + 1, 0, none⟩ = some su ∧ W.cell? ⟨w.heap.size + 1, 1, none⟩ = some sv ∧ W.cell? ⟨w.heap.size + 1, 2, none⟩ = some (.int .u16 sk) ∧ W.cell? ⟨w.heap.size + 1, 3, none⟩ = some (.string ss)) :=
    Lib.hid fun W hW => ⟨hW, (hBa.after hW).cell 0, (hBa.after hW).cell 1, (hBs.after hW).cell 0, (hBs.after hW).cell 1, (hBs.after hW).cell 2, (hBs.after hW).cell 3⟩
  have HW1 := Lib.hid hw1
  have l1 : ¬ (60 : Int) < (l.length : Int) := by omega
  have HE := Lib.hid paged_true
  have ex := N.ex
  have ey := N.ey
  have hV1 := hv.below hB1 (Nat.le_refl _)
  have HRAW := Lib.hid (show IntKind.i64.wrap (480 * IntKind.i64.wrap (1 + (IntKind.i64.wrap (y : Int)).tmod 5)) = (m : Int) by
    have h1 : IntKind.i64.wrap (y : Int) = y := by rw [IntKind.wrap_i64]; omega
    rw [h1, Int.tmod_eq_emod_of_nonneg (by omega)]
    have h2 : IntKind.i64.wrap (1 + (y : Int) % 5) = 1 + (y : Int) % 5 := by rw [IntKind.wrap_i64]; omega
    rw [h2, ey, IntKind.wrap_i64]
    have := N.q5; have := N.hn; have := N.hm
    omega)
  have HM := Lib.hid fun W (hW : Below w1.heap.size w1 W) => make_ref _ l p m W (hV1.below hW (Nat.le_refl _)) wl (by omega) N.wp N.wm
  have hSz := N.put_size l
  have HP := Lib.hid fun W => pputr_any (bs (makeL l p (m : Nat))) p W
  have h5 := N.q5
  obtain ⟨a, ha⟩ : ∃ a, bs (makeL l p (m : Nat)) = a := ⟨_, rfl⟩
  rw [ha] at HM HP hSz
  obtain ⟨S, hS⟩ : ∃ S, putP a p = S := ⟨_, rfl⟩
  rw [hS] at HP hSz
  have HO := Lib.hid fun W (hW : Below w1.heap.size w1 W) => of_any (.agg #[su, sv, .int .u16 sk, .string ss]) S W (HSP.out W (bj hB1 hW)) (by omega)
  have HB1 := Lib.hid hB1
  have HV := Lib.hid hV1
  have hS4 : S.size ≤ 1000 := by omega
  obtain ⟨-, c0, c1, c2, c3, c4, c5⟩ := HS0.out w1 (Below.refl _ _)
  clear hw1 hv ha hS hSz h5 N hV1 hB1 hBa hBs hsz
  go_enter Try.func5, Try.ntmps5
  go_wp2_with fail
  rw [HW1.out]
  go_region_held3 (fun W => Below w1.heap.size w1 W ∧ W.cell? ⟨w.heap.size, 0, none⟩ = some (.int .u8 (x : Nat)) ∧ W.cell? ⟨w.heap.size, 1, none⟩ = some (.int .u8 (y : Nat)) ∧ W.cell? ⟨w.heap.size + 1, 0, none⟩ = some su ∧ W.cell? ⟨w.heap.size + 1, 1, none⟩ = some sv ∧ W.cell? ⟨w.heap.size + 1, 2, none⟩ = some (.int .u16 sk) ∧ W.cell? ⟨w.heap.size + 1, 3, none⟩ = some (.string ss))
    (first | (with_reducible assumption) | ((with_reducible refine HS0.out _ ?_); (repeat' (first | (with_reducible assumption) | (with_reducible exact Below.refl _ _) | (with_reducible refine Below.drew ?_))); done) | fail)
    (first
    | (go_at_call 16; (rw [HRAW.out]; (with_reducible refine (HM.out _ (And.left (by with_reducible assumption))).mono ?_); rintro e w' ⟨rfl, hb⟩; have hB2 := hold_pg hb (by with_reducible assumption)))
    | (go_at_call 11; ((with_reducible refine (HP.out _).mono ?_); rintro e w' ⟨rfl, hb⟩; have hB2 := hold_pg hb (by with_reducible assumption)))
    | (go_at_call 15; ((with_reducible refine (HO.out _ (And.left (by with_reducible assumption))).mono ?_); rintro e w' ⟨t, ht, rfl, hb⟩; have hB2 := hold_pg hb (by with_reducible assumption)))
    | fail)
  have hb3 : Below w1.heap.size w1 w' := by assumption
  obtain ⟨w3, rfl⟩ : ∃ w3, w3 = w' := ⟨_, rfl⟩
  have HL := Lib.hid fun W => load_any t W (by omega)
  have HMY := Lib.hid fun f (g : Nat) W (hg : g < 18446744073709551616) h => may_any f g t W hg h
  have HMR := Lib.hid fun (g : Nat) W (hg : g < 18446744073709551616) => mayr_any t g W hg (by omega)
  have HB3 := Lib.hid hb3
  have HV3 := Lib.hid (HV.out.below hb3 (Nat.le_refl _))
  clear hb hB2 hb3 HV c0 c1 c2 c3 c4 c5 HS0
  go_wp2_with fail
  refine (HL.out _).mono ?_
  rintro e w6 ⟨f, rfl, hf, b6⟩
  obtain ⟨f0, f1, f2, rfl⟩ := hf.form
  have HF := Lib.hid hf
  have HV7 := Lib.hid (HV3.out.below b6 (Nat.le_refl _))
  have HB6 := Lib.hid (bj HB1.out (bj HB3.out b6))
  clear hf b6
  go_wp2_with fail
  have hB7 := Blok.new w6 28 #[.int .i64 f0, .int .i64 f1, .map f2]
  have hb7 := (Below.refl w6.heap.size w6).alloc (Nat.le_refl _) (.cells #[.int .i64 f0, .int .i64 f1, .map f2] 28)
  obtain ⟨w7, hw7⟩ : ∃ w7, w6.alloc (.cells #[.int .i64 f0, .int .i64 f1, .map f2] 28) = w7 := ⟨_, rfl⟩
  rw [hw7] at hB7 hb7 ⊢
  obtain ⟨fb, hfb⟩ : ∃ fb, w6.heap.size = fb := ⟨_, rfl⟩
  have hF7 := HF.out.below hb7
  have hV7 := HV7.out.below hb7 (Nat.le_refl _)
  have HB7 := Lib.hid (bj HB6.out hb7)
  rw [hfb] at hB7 ⊢
  have HH := Lib.hid (And.intro hB7 hF7)
  clear hw7 hfb hb7 hB7 hF7 HF HB6 HV7
  go_loopw [10] (fun ii wr => ∃ k : Nat, k ≤ l.length ∧ ii = .int .i64 k ∧ Below w7.heap.size w7 wr) (fun ii _ => l.length - (intOf ii).toNat)
  case atStart => exact ⟨0, Nat.zero_le _, rfl, Below.refl _ _⟩
  case round =>
    obtain ⟨k, hk, rfl, hbel⟩ := hrel
    by_cases hlt : k < l.length
    · obtain ⟨q0, off, rfl, hb0, hcap, hcell⟩ := hV7.at (by omega)
      have hcx := fun W (hW : Below w7.heap.size w7 W) => (hW.cell (p := ⟨q0, off + k, none⟩) hb0).trans (hcell k hlt)
      unfold u64V at hcx
      generalize l.getD k 0 = g at *
      have HCX := Lib.hid hcx
      have s3 : (k : Int) < (l.length : Int) := by omega
      obtain ⟨wy, rfl⟩ : ∃ wy, wy = wr := ⟨_, rfl⟩
      have HBY := Lib.hid hbel
      clear hcx hcell hbel
      go_wp2_with fail
      go_loopw [11] (fun jj wr => ∃ j : Nat, j ≤ 3 ∧ jj = .int .i64 j ∧ Below w7.heap.size w7 wr) (fun jj _ => 3 - (intOf jj).toNat)
      case atStart => exact ⟨0, Nat.zero_le _, rfl, HBY.out⟩
      case round =>
        obtain ⟨j, hj, rfl, hbel⟩ := hrel
        by_cases hlj : j < 3
        · obtain ⟨z, hz, hz2⟩ := plus_any g j (by omega)
          have HZ := Lib.hid hz
          have HS : Hid (∀ W, Below wr.heap.size wr W → Below wr.heap.size wr W ∧ W.cell? ⟨fb, 0, none⟩ = some (.int .i64 f0) ∧ W.cell? ⟨fb, 1, none⟩ = some (.int .i64 f1) ∧ W.cell? ⟨fb, 2, none⟩ = some (.map f2) ∧ W.cell? ⟨q0, off + k, none⟩ = some (.int .u64 (g : Nat))) :=
            Lib.hid fun W hW => ⟨hW, (HH.out.1.after (bj hbel hW)).cell 0, (HH.out.1.after (bj hbel hW)).cell 1, (HH.out.1.after (bj hbel hW)).cell 2, HCX.out W (bj hbel hW)⟩
          have HK1 := Lib.hid fun W (hW : Below wr.heap.size wr W) => HMY.out _ z W hz2 (HH.out.2.below (bj hbel hW))
          have HK2 := Lib.hid fun W => HMR.out z W hz2
          obtain ⟨-, d0, d1, d2, d3⟩ := HS.out wr (Below.refl _ _)
          have HBR := Lib.hid hbel
          have s4 : (j : Int) < 3 := by omega
          generalize mayT t z = qq at *
          have e1 : (qq != qq) = false := by simp
          clear hbel hz
          go_wp2_with fail
          go_region_held3 (fun W => Below wr.heap.size wr W ∧ W.cell? ⟨fb, 0, none⟩ = some (.int .i64 f0) ∧ W.cell? ⟨fb, 1, none⟩ = some (.int .i64 f1) ∧ W.cell? ⟨fb, 2, none⟩ = some (.map f2) ∧ W.cell? ⟨q0, off + k, none⟩ = some (.int .u64 (g : Nat)))
            (first | (with_reducible assumption) | ((with_reducible refine HS.out _ ?_); (repeat' (first | (with_reducible assumption) | (with_reducible exact Below.refl _ _) | (with_reducible refine Below.drew ?_))); done) | fail)
            (first
            | (go_at_call 13; ((try rw [HZ.out]); (with_reducible refine (HK1.out _ (And.left (by with_reducible assumption))).mono ?_); rintro e w' ⟨rfl, hb⟩; have hB2 := hold_pg hb (by with_reducible assumption)))
            | (go_at_call 14; ((try rw [HZ.out]); (with_reducible refine (HK2.out _).mono ?_); rintro e w' ⟨rfl, hb⟩; have hB2 := hold_pg hb (by with_reducible assumption)))
            | fail)
          all_goals
            go_wp2
            go_roundw
            case rel => exact ⟨j + 1, hlj, by go_num, bj HBR.out (And.left (by with_reducible assumption))⟩
            case measure => simp [intOf]; omega
        · obtain rfl : j = 3 := by omega
          have HBR := Lib.hid hbel
          clear hbel
          go_wp2
          go_roundw
          case rel => exact ⟨k + 1, hlt, by go_num, HBR.out⟩
          case measure => simp [intOf]; omega
    · obtain rfl : k = l.length := by omega
      have s3 : ¬ (l.length : Int) < (l.length : Int) := by omega
      have HBR := Lib.hid (bj HB7.out hbel)
      clear hbel
      go_wp2_with fail
      refine (HE.out _).mono ?_
      rintro e w9 ⟨rfl, hb9⟩
      go_wp2
      go_ret
      exact ⟨rfl, bj HBR.out hb9⟩

theorem walk (w : World) (v : Value) (l : List Nat) (x y : Int) (xx : Value) (hv : RowOf u64V w v l) (wl : Words l) (wx : (Lit.int .u8 x).wf = true) (wy : (Lit.int .u8 y).wf = true) (hxx : SpoIn w xx) :
    Calls Try.prog 5 #[v, .agg #[.int .u8 x, .int .u8 y], xx] w fun e w' => e = .returned (.bool true) ∧ Below w.heap.size w w' := by
  by_cases h : l.length ≤ 60
  · obtain ⟨a, rfl, ha⟩ := u8_nat wx
    obtain ⟨b, rfl, hb⟩ := u8_nat wy
    exact short v xx l a b w hv wl hxx ha hb h
  · exact long v xx l x y w hv hxx (by omega)
end Go.Proofs.Ytfnppmiapjhjlaa.PgSp

/- PgKeepWalk -/
namespace Go.Proofs.Ytfnppmiapjhjlaa.PgKp
open Go.RowKit
set_option linter.unusedVariables false

theorem long (v x : Value) (l : List Nat) (a b : Int) (w : World) (hv : RowOf u64V w v l) (hx : SpoIn w x) (hl : 60 < l.length) :
    Calls Try.prog 7 #[v, .agg #[.int .u8 a, .int .u8 b], x] w fun e w' => e = .returned (.bool true) ∧ Below w.heap.size w w' := by
  obtain ⟨A, c, rfl⟩ := hv.form
  obtain ⟨u, z, k, s, la, lb, rfl, -⟩ := hx
  unfold spoV
  have HE := Lib.hid paged_true
  have l1 : (60 : Int) < (l.length : Int) := by omega
  have hb0 : Below w.heap.size w ((w.alloc (.cells #[.int .u8 a, .int .u8 b] 34)).alloc (.cells #[u, z, .int .u16 k, .string s] 39)) := ((Below.refl _ w).alloc (Nat.le_refl _) _).alloc (by simp) _
  go_enter Try.func7, Try.ntmps7
  go_wp2_with fail
  refine (HE.out _).mono ?_
  rintro e w2 ⟨rfl, hb2⟩
  go_wp2
  go_ret
  exact ⟨rfl, bj hb0 hb2⟩

set_option maxHeartbeats 4000000 in
set_option maxRecDepth 100000 in
theorem short (v xx : Value) (l : List Nat) (x y : Nat) (w : World) (hv : RowOf u64V w v l) (wl : Words l) (hxx : SpoIn w xx) (hx : x < 256) (hy : y < 256) (hl : l.length ≤ 60) :
    Calls Try.prog 7 #[v, .agg #[.int .u8 (x : Nat), .int .u8 (y : Nat)], xx] w fun e w' => e = .returned (.bool true) ∧ Below w.heap.size w w' := by
  obtain ⟨A, c, rfl⟩ := hv.form
  have HSP := Lib.hid fun W (hW : Below w.heap.size w W) => hxx.below hW (Nat.le_refl _)
  obtain ⟨su, sv, sk, ss, la, lb, rfl, -⟩ := hxx
  unfold spoV at HSP ⊢
  obtain ⟨p, q, n, m, N⟩ := nums_any x y
  have hBa := (Blok.new w 34 #[.int .u8 (x : Nat), .int .u8 (y : Nat)]).alloc (.cells #[su, sv, .int .u16 sk, .string ss] 39)
  have hBs := Blok.new (w.alloc (.cells #[.int .u8 (x : Nat), .int .u8 (y : Nat)] 34)) 39 #[su, sv, .int .u16 sk, .string ss]
  have hB1 : Below w.heap.size w ((w.alloc (.cells #[.int .u8 (x : Nat), .int .u8 (y : Nat)] 34)).alloc (.cells #[su, sv, .int .u16 sk, .string ss] 39)) := ((Below.refl _ w).alloc (Nat.le_refl _) _).alloc (by simp) _
  have hsz : (w.alloc (.cells #[.int .u8 (x : Nat), .int .u8 (y : Nat)] 34)).heap.size = w.heap.size + 1 := by simp
  rw [hsz] at hBs
  obtain ⟨w1, hw1⟩ : ∃ w1, (w.alloc (.cells #[.int .u8 (x : Nat), .int .u8 (y : Nat)] 34)).alloc (.cells #[su, sv, .int .u16 sk, .string ss] 39) = w1 := ⟨_, rfl⟩
  rw [hw1] at hB1 hBa hBs
  have c0 : w1.cell? ⟨w.heap.size, 0, none⟩ = some (.int .u8 (x : Nat)) := hBa.cell 0
  have c1 : w1.cell? ⟨w.heap.size, 1, none⟩ = some (.int .u8 (y : Nat)) := hBa.cell 1
  have HW1 := Lib.hid hw1
  have l1 : ¬ (60 : Int) < (l.length : Int) := by omega
  have HE := Lib.hid paged_true
  have ex := N.ex
  have ey := N.ey
  have hV1 := hv.below hB1 (Nat.le_refl _)
  have HM := Lib.hid (make_any _ l p m w1 hV1 wl (by omega) N.wp N.wm)
  have hSz := N.put_size l
  have HYES := Lib.hid fun (t : ByteArray) (hK : KeepP _ t) (g : Nat) (hg : g ∈ l) => N.keep l hg hK
  have HP := Lib.hid fun W => pput_any (bs (makeL l p (m : Nat))) p W
  have h5 := N.q5
  obtain ⟨a, ha⟩ : ∃ a, bs (makeL l p (m : Nat)) = a := ⟨_, rfl⟩
  rw [ha] at HM HP HYES hSz
  obtain ⟨S, hS⟩ : ∃ S, putP a p = S := ⟨_, rfl⟩
  rw [hS] at HP HYES hSz
  have HO := Lib.hid fun W h => of_any (.agg #[su, sv, .int .u16 sk, .string ss]) S W h (by omega)
  have l3 : ¬ (S.size : Int) < 128 := by omega
  have l3' : decide ((S.size : Int) < 128) = false := decide_eq_false l3
  have l4 : ((S.size : Int) % 64 != 0) = false := by rw [bne_eq_false_iff_eq]; omega
  have l4' : (S.size : Int) % 64 = 0 := by omega
  have HB1 := Lib.hid hB1
  have HV := Lib.hid hV1
  have HBS := Lib.hid hBs
  have HQ := Lib.hid (And.intro hSz h5)
  clear hw1 hv ha hS hSz h5 N hV1 hB1 hBa hBs hsz
  go_enter Try.func7, Try.ntmps7
  go_wp2_with fail
  rw [HW1.out]
  refine HM.out.mono ?_
  rintro e w2 ⟨rfl, b2⟩
  go_wp2_with fail
  refine (HP.out _).mono ?_
  rintro e w3 ⟨rfl, b3⟩
  have b13 := bj b2 b3
  have hs3 := HBS.out.after b13
  have k0 : w3.cell? ⟨w.heap.size + 1, 0, none⟩ = some su := hs3.cell 0
  have k1 : w3.cell? ⟨w.heap.size + 1, 1, none⟩ = some sv := hs3.cell 1
  have k2 : w3.cell? ⟨w.heap.size + 1, 2, none⟩ = some (.int .u16 sk) := hs3.cell 2
  have k3 : w3.cell? ⟨w.heap.size + 1, 3, none⟩ = some (.string ss) := hs3.cell 3
  have HB13 := Lib.hid b13
  have HS3 := Lib.hid (HSP.out w3 (bj HB1.out b13))
  clear hs3 b13 b2 b3 c0 c1
  go_wp2_with fail
  refine (HO.out _ HS3.out).mono ?_
  rintro e w4 ⟨t, ht, rfl, b4⟩
  have HB4 := Lib.hid (bj HB13.out b4)
  have ht2 : t.size ≤ 1000 := by have := HQ.out; omega
  clear k0 k1 k2 k3 b4 l4 l4' l3 l3' ht
  go_wp2_with fail
  have HV4 := Lib.hid (HV.out.below HB4.out (Nat.le_refl _))
  have HO4 := Lib.hid fun (y : Nat) (W : World) => open_any (t.extract y (y + 64)) W (by rw [ByteArray.size_extract]; unfold maxLen; omega)
  clear HO HM HP HS3 HB13 HSP HBS HV
  go_loopw [10] (fun v wr => ∃ k : Nat, v = .int .i64 ((64 * k : Nat) : Int) ∧ 64 * k ≤ t.size ∧ (∀ j, j < k → pgW t j = true → 64 * j + 64 ≤ S.size ∧ pgT t j = pgT S j) ∧ Below w4.heap.size w4 wr) (fun v _ => t.size + 1 - (intOf v).toNat)
  case atStart => exact ⟨0, rfl, Nat.zero_le _, fun j hj => by omega, Below.refl _ _⟩
  case round =>
    obtain ⟨k, rfl, hk, hall, hbel⟩ := hrel
    have HALL := Lib.hid hall
    clear hall
    obtain ⟨y, hy⟩ : ∃ y, 64 * k = y := ⟨_, rfl⟩
    rw [hy]
    rw [hy] at hk
    have HY := Lib.hid hy
    clear hy
    by_cases hlt : y + 64 ≤ t.size
    · have s1 : (y : Int) + 64 ≤ (t.size : Int) := by omega
      have s2 : (y : Int) ≤ (t.size : Int) := by omega
      have HK := Lib.hid fun W => HO4.out y W
      have hpw : pgW t k = opOk (t.extract y (y + 64)) := by
        unfold pgW pgT
        rw [HY.out, decide_eq_true hlt, Bool.true_and]
      obtain ⟨o, ho⟩ : ∃ o, opOk (t.extract y (y + 64)) = o := ⟨_, rfl⟩
      rw [ho] at HK hpw
      generalize opA (t.extract y (y + 64)) = P at *
      have HPW := Lib.hid hpw
      have HBL := Lib.hid hbel
      clear hbel hpw ho
      cases o with
      | false =>
        go_wp2_with fail
        refine (HK.out _).mono ?_
        rintro e w5 ⟨rfl, b5⟩
        have HB5 := Lib.hid (bj HBL.out b5)
        clear b5
        go_wp2_with fail
        go_quiet (fail)
        go_wp2
        go_roundw
        case rel =>
          refine ⟨k + 1, by rw [show 64 * (k + 1) = y + 64 by have := HY.out; omega]; go_num, by have := HY.out; omega, fun j hj hw => ?_, below_drewN HB5.out _⟩
          by_cases e : j = k
          · rw [e, HPW.out] at hw; cases hw
          · exact HALL.out j (by omega) hw
        case measure => simp [intOf]; omega
      | true =>
        by_cases hS : y + 64 ≤ S.size
        · have d1 : decide ((S.size : Int) < (y : Int) + 64) = false := decide_eq_false (by omega)
          have s3 : (y : Int) + 64 ≤ (S.size : Int) := by omega
          have s4 : ¬ (S.size : Int) < (y : Int) + 64 := by omega
          by_cases hE : t.extract y (y + 64) = S.extract y (y + 64)
          · have he := list_eq hE
            have hne : ((t.extract y (y + 64)).toList != (S.extract y (y + 64)).toList) = false := by rw [bne, he]; rfl
            have HEE := Lib.hid hE
            clear hE
            go_wp2_with fail
            refine (HK.out _).mono ?_
            rintro e w5 ⟨rfl, b5⟩
            have HB5 := Lib.hid (bj HBL.out b5)
            clear b5
            go_wp2_with fail
            go_quiet (fail)
            go_wp2
            go_roundw
            case rel =>
              refine ⟨k + 1, by rw [show 64 * (k + 1) = y + 64 by have := HY.out; omega]; go_num, by have := HY.out; omega, fun j hj hw => ?_, below_drewN HB5.out _⟩
              by_cases e : j = k
              · subst e
                exact ⟨by have := HY.out; omega, by unfold pgT; rw [HY.out]; exact HEE.out⟩
              · exact HALL.out j (by omega) hw
            case measure => simp [intOf]; omega
          · have he := list_ne hE
            have hne : ((t.extract y (y + 64)).toList != (S.extract y (y + 64)).toList) = true := by rw [bne, he]; rfl
            clear hE
            go_wp2_with fail
            refine (HK.out _).mono ?_
            rintro e w5 ⟨rfl, b5⟩
            have HB5 := Lib.hid (bj HBL.out b5)
            clear b5
            go_wp2_with fail
            go_quiet (fail)
            go_wp2_with fail
            refine (HE.out _).mono ?_
            rintro e w6 ⟨rfl, b6⟩
            go_wp2
            go_ret
            exact ⟨rfl, bj HB1.out (bj HB4.out (bj (below_drewN HB5.out _) b6))⟩
        · have d1 : decide ((S.size : Int) < (y : Int) + 64) = true := decide_eq_true (by omega)
          have s3 : (S.size : Int) < (y : Int) + 64 := by omega
          go_wp2_with fail
          refine (HK.out _).mono ?_
          rintro e w5 ⟨rfl, b5⟩
          have HB5 := Lib.hid (bj HBL.out b5)
          clear b5
          go_wp2_with fail
          go_quiet (fail)
          go_wp2_with fail
          refine (HE.out _).mono ?_
          rintro e w6 ⟨rfl, b6⟩
          go_wp2
          go_ret
          exact ⟨rfl, bj HB1.out (bj HB4.out (bj (below_drewN HB5.out _) b6))⟩
    · have hyes0 : KeepP S t := fun j hj => by
        obtain ⟨h1, h2⟩ := pgW_iff.1 hj
        exact HALL.out j (by have := HY.out; omega) hj
      have HYES2 := Lib.hid fun (g : Nat) (hg : g ∈ l) => HYES.out t hyes0 g hg
      have HL := Lib.hid fun W => load_any t W (by omega)
      have HMY := Lib.hid fun f (g : Nat) W (hg : g < 18446744073709551616) h => may_any f g t W hg h
      have s1 : ¬ (y : Int) + 64 ≤ (t.size : Int) := by omega
      have HBL := Lib.hid (bj HB4.out hbel)
      have HV6 := Lib.hid (HV4.out.below hbel (Nat.le_refl _))
      clear hyes0 hbel HALL HYES HO4 HV4
      go_wp2_with fail
      refine (HL.out _).mono ?_
      rintro e w6 ⟨f, rfl, hf, b6⟩
      obtain ⟨f0, f1, f2, rfl⟩ := hf.form
      have HF := Lib.hid hf
      have HV7 := Lib.hid (HV6.out.below b6 (Nat.le_refl _))
      have HB6 := Lib.hid (bj HB1.out (bj HBL.out b6))
      clear hf b6 HV6
      go_wp2_with fail
      have hB7 := Blok.new w6 28 #[.int .i64 f0, .int .i64 f1, .map f2]
      have hb7 := (Below.refl w6.heap.size w6).alloc (Nat.le_refl _) (.cells #[.int .i64 f0, .int .i64 f1, .map f2] 28)
      obtain ⟨w7, hw7⟩ : ∃ w7, w6.alloc (.cells #[.int .i64 f0, .int .i64 f1, .map f2] 28) = w7 := ⟨_, rfl⟩
      rw [hw7] at hB7 hb7 ⊢
      obtain ⟨fb, hfb⟩ : ∃ fb, w6.heap.size = fb := ⟨_, rfl⟩
      have hF7 := HF.out.below hb7
      have hV7 := HV7.out.below hb7 (Nat.le_refl _)
      have HB7 := Lib.hid (bj HB6.out hb7)
      rw [hfb] at hB7 ⊢
      have HH := Lib.hid (And.intro hB7 hF7)
      clear hw7 hfb hb7 hB7 hF7 HF HB6 HV7
      go_loopw [14] (fun ii wr => ∃ k : Nat, k ≤ l.length ∧ ii = .int .i64 k ∧ Below w7.heap.size w7 wr) (fun ii _ => l.length - (intOf ii).toNat)
      case atStart => exact ⟨0, Nat.zero_le _, rfl, Below.refl _ _⟩
      case round =>
        obtain ⟨k, hk, rfl, hbel⟩ := hrel
        by_cases hlt : k < l.length
        · obtain ⟨q0, off, rfl, hb0, hcap, hcell⟩ := hV7.at (by omega)
          have hcx := fun W (hW : Below w7.heap.size w7 W) => (hW.cell (p := ⟨q0, off + k, none⟩) hb0).trans (hcell k hlt)
          have hg := words_at wl k
          have hgm : l.getD k 0 ∈ l := by rw [List.getD_eq_getElem?_getD, List.getElem?_eq_getElem hlt]; exact List.getElem_mem hlt
          unfold u64V at hcx
          generalize l.getD k 0 = g at *
          have hyes := HYES2.out g hgm
          have HS : Hid (∀ W, Below wr.heap.size wr W → Below wr.heap.size wr W ∧ W.cell? ⟨fb, 0, none⟩ = some (.int .i64 f0) ∧ W.cell? ⟨fb, 1, none⟩ = some (.int .i64 f1) ∧ W.cell? ⟨fb, 2, none⟩ = some (.map f2) ∧ W.cell? ⟨q0, off + k, none⟩ = some (.int .u64 (g : Nat))) :=
            Lib.hid fun W hW => ⟨hW, (HH.out.1.after (bj hbel hW)).cell 0, (HH.out.1.after (bj hbel hW)).cell 1, (HH.out.1.after (bj hbel hW)).cell 2, hcx W (bj hbel hW)⟩
          have HK1 := Lib.hid fun W (hW : Below wr.heap.size wr W) => HMY.out _ g W hg (HH.out.2.below (bj hbel hW))
          rw [hyes] at HK1
          obtain ⟨-, d0, d1, d2, d3⟩ := HS.out wr (Below.refl _ _)
          have HBR := Lib.hid hbel
          have s3 : (k : Int) < (l.length : Int) := by omega
          clear hbel hcx hcell hyes
          go_wp2_with fail
          go_region_held3 (fun W => Below wr.heap.size wr W ∧ W.cell? ⟨fb, 0, none⟩ = some (.int .i64 f0) ∧ W.cell? ⟨fb, 1, none⟩ = some (.int .i64 f1) ∧ W.cell? ⟨fb, 2, none⟩ = some (.map f2) ∧ W.cell? ⟨q0, off + k, none⟩ = some (.int .u64 (g : Nat)))
            (first | (with_reducible assumption) | ((with_reducible refine HS.out _ ?_); (repeat' (first | (with_reducible assumption) | (with_reducible exact Below.refl _ _) | (with_reducible refine Below.drew ?_))); done) | fail)
            (first
            | (go_at_call 13; ((with_reducible refine (HK1.out _ (And.left (by with_reducible assumption))).mono ?_); rintro e w' ⟨rfl, hb⟩; have hB2 := hold_pg hb (by with_reducible assumption)))
            | fail)
          all_goals
            go_wp2
            go_roundw
            case rel => exact ⟨k + 1, hlt, by go_num, bj HBR.out (And.left (by with_reducible assumption))⟩
            case measure => simp [intOf]; omega
        · obtain rfl : k = l.length := by omega
          have s3 : ¬ (l.length : Int) < (l.length : Int) := by omega
          have HBR := Lib.hid (bj HB7.out hbel)
          clear hbel
          go_wp2_with fail
          refine (HE.out _).mono ?_
          rintro e w9 ⟨rfl, hb9⟩
          go_wp2
          go_ret
          exact ⟨rfl, bj HBR.out hb9⟩

theorem walk (w : World) (v : Value) (l : List Nat) (x y : Int) (xx : Value) (hv : RowOf u64V w v l) (wl : Words l) (wx : (Lit.int .u8 x).wf = true) (wy : (Lit.int .u8 y).wf = true) (hxx : SpoIn w xx) :
    Calls Try.prog 7 #[v, .agg #[.int .u8 x, .int .u8 y], xx] w fun e w' => e = .returned (.bool true) ∧ Below w.heap.size w w' := by
  by_cases h : l.length ≤ 60
  · obtain ⟨a, rfl, ha⟩ := u8_nat wx
    obtain ⟨b, rfl, hb⟩ := u8_nat wy
    exact short v xx l a b w hv wl hxx ha hb h
  · exact long v xx l x y w hv hxx (by omega)
end Go.Proofs.Ytfnppmiapjhjlaa.PgKp

/- PgNearWalk -/
namespace Go.Proofs.Ytfnppmiapjhjlaa.PgNr
open Go.RowKit
set_option linter.unusedVariables false

/-- Of pages P and on all is as it was; of those before, all but four bytes. -/
def NearP (S : List UInt8) (at' : Nat → Nat) (P : Nat) (L : List UInt8) : Prop := ∀ j i, i < 64 → (P ≤ j ∨ i < at' j ∨ at' j + 4 ≤ i) → L[64 * j + i]? = S[64 * j + i]?
theorem NearP.next {S L : List UInt8} {at' : Nat → Nat} {P : Nat} (h : NearP S at' P L) : NearP S at' (P + 1) L := fun j i hi hc => h j i hi (hc.imp (fun a => by omega) id)
theorem NearP.set {S L : List UInt8} {at' : Nat → Nat} {P i : Nat} (h : NearP S at' (P + 1) L) (ha : at' P ≤ 60) (hi : i < 4) (c : UInt8) : NearP S at' (P + 1) (L.set (64 * P + at' P + i) c) := fun j k hk hc => by
  rw [List.getElem?_set_ne (fun e => by
    have hj : j = P := by omega
    subst hj
    omega)]
  exact h j k hk hc
theorem whole {x y p q n m : Nat} (N : Nums x y p q n m) (l : List Nat) (j : Nat) (h : 64 * j + 64 ≤ (putP (bs (makeL l p (m : Nat))) p).size) : pgW (putP (bs (makeL l p (m : Nat))) p) j = true := by
  rw [N.put_size l] at h
  have h1 := N.size l
  have h2 := N.hn
  exact pgW_put (N.okS l) (by rw [h1]; omega)

theorem long (v : Value) (l l2 : List Nat) (a b : Int) (w : World) (hv : RowOf u64V w v l) (hl : 60 < l.length) :
    Calls Try.prog 8 #[v, .agg #[.int .u8 a, .int .u8 b], arr6 l2] w fun e w' => e = .returned (.bool true) ∧ Below w.heap.size w w' := by
  obtain ⟨A, c, rfl⟩ := hv.form
  unfold arr6
  generalize (u32L l2).toArray = D
  have HE := Lib.hid paged_true
  have l1 : (60 : Int) < (l.length : Int) := by omega
  have hb0 : Below w.heap.size w ((w.alloc (.cells #[.int .u8 a, .int .u8 b] 34)).alloc (.cells D 48)) := ((Below.refl _ w).alloc (Nat.le_refl _) _).alloc (by simp) _
  go_enter Try.func8, Try.ntmps8
  go_wp2_with fail
  refine (HE.out _).mono ?_
  rintro e w2 ⟨rfl, hb2⟩
  go_wp2
  go_ret
  exact ⟨rfl, bj hb0 hb2⟩

set_option maxHeartbeats 4000000 in
set_option maxRecDepth 100000 in
theorem short (v : Value) (l l2 : List Nat) (x y : Nat) (w : World) (hv : RowOf u64V w v l) (wl : Words l) (h6 : l2.length = 6) (hw6 : ∀ z ∈ l2, z < 4294967296) (hx : x < 256) (hy : y < 256) (hl : l.length ≤ 60) :
    Calls Try.prog 8 #[v, .agg #[.int .u8 (x : Nat), .int .u8 (y : Nat)], arr6 l2] w fun e w' => e = .returned (.bool true) ∧ Below w.heap.size w w' := by
  obtain ⟨A, c, rfl⟩ := hv.form
  obtain ⟨D, hD⟩ : ∃ D, (u32L l2).toArray = D := ⟨_, rfl⟩
  have HD := Lib.hid fun (i : Nat) (hi : i < 6) => hD ▸ u32L_at l2 i (by omega)
  unfold arr6
  rw [hD]
  obtain ⟨p, q, n, m, N⟩ := nums_any x y
  have hBa := (Blok.new w 34 #[.int .u8 (x : Nat), .int .u8 (y : Nat)]).alloc (.cells D 48)
  have hBs := Blok.new (w.alloc (.cells #[.int .u8 (x : Nat), .int .u8 (y : Nat)] 34)) 48 D
  have hB1 : Below w.heap.size w ((w.alloc (.cells #[.int .u8 (x : Nat), .int .u8 (y : Nat)] 34)).alloc (.cells D 48)) := ((Below.refl _ w).alloc (Nat.le_refl _) _).alloc (by simp) _
  have hsz : (w.alloc (.cells #[.int .u8 (x : Nat), .int .u8 (y : Nat)] 34)).heap.size = w.heap.size + 1 := by simp
  rw [hsz] at hBs
  obtain ⟨w1, hw1⟩ : ∃ w1, (w.alloc (.cells #[.int .u8 (x : Nat), .int .u8 (y : Nat)] 34)).alloc (.cells D 48) = w1 := ⟨_, rfl⟩
  rw [hw1] at hB1 hBa hBs
  have c0 : w1.cell? ⟨w.heap.size, 0, none⟩ = some (.int .u8 (x : Nat)) := hBa.cell 0
  have c1 : w1.cell? ⟨w.heap.size, 1, none⟩ = some (.int .u8 (y : Nat)) := hBa.cell 1
  have HW1 := Lib.hid hw1
  have l1 : ¬ (60 : Int) < (l.length : Int) := by omega
  have HE := Lib.hid paged_true
  have ex := N.ex
  have ey := N.ey
  have hV1 := hv.below hB1 (Nat.le_refl _)
  have HM := Lib.hid (make_any _ l p m w1 hV1 wl (by omega) N.wp N.wm)
  have hSz := N.put_size l
  have HYES := Lib.hid fun (t : ByteArray) (hK : KeepP _ t) (g : Nat) (hg : g ∈ l) => N.keep l hg hK
  have HWH := Lib.hid (whole N l)
  have HP := Lib.hid fun W => pput_any (bs (makeL l p (m : Nat))) p W
  have h5 := N.q5
  obtain ⟨a, ha⟩ : ∃ a, bs (makeL l p (m : Nat)) = a := ⟨_, rfl⟩
  rw [ha] at HM HP HYES HWH hSz
  obtain ⟨S, hS⟩ : ∃ S, putP a p = S := ⟨_, rfl⟩
  rw [hS] at HP HYES HWH hSz
  have HB1 := Lib.hid hB1
  have HV := Lib.hid hV1
  have HBS := Lib.hid hBs
  have HQ := Lib.hid (And.intro hSz h5)
  clear hw1 hv ha hS h5 N hV1 hB1 hBa hBs hsz hD hSz
  go_enter Try.func8, Try.ntmps8
  go_wp2_with fail
  rw [HW1.out]
  refine HM.out.mono ?_
  rintro e w2 ⟨rfl, b2⟩
  go_wp2_with fail
  refine (HP.out _).mono ?_
  rintro e w3 ⟨rfl, b3⟩
  have HB13 := Lib.hid (bj b2 b3)
  obtain ⟨sz, hsz⟩ : ∃ sz, S.size = sz := ⟨_, rfl⟩
  obtain ⟨r, hr⟩ : ∃ r, q + 1 = r := ⟨_, rfl⟩
  have hq := HQ.out
  have hszr : sz = 64 * r := by omega
  have hr2 : 2 ≤ r ∧ r ≤ 6 := by omega
  have hcv := conv_in w3 S
  have hrow := bytesIn_row 5 w3 S
  have hb4 : Below w3.heap.size w3 (bytesIn 5 w3 S) := bytesIn_below 5 S (Below.refl _ _)
  obtain ⟨cap, hcap⟩ : ∃ cap, grownCap w3 S.size 0 5 = cap := ⟨_, rfl⟩
  obtain ⟨w4, hw4⟩ : ∃ w4, bytesIn 5 w3 S = w4 := ⟨_, rfl⟩
  rw [hcap, hw4, hsz] at hcv
  rw [hw4, hsz] at hrow
  rw [hw4] at hb4
  obtain ⟨gb, hgb⟩ : ∃ gb, w3.heap.size = gb := ⟨_, rfl⟩
  rw [hgb] at hcv hrow
  have HR0 := Lib.hid (And.intro hrow (And.intro hb4 hgb))
  have HSZ := Lib.hid (And.intro hsz (And.intro hszr hr))
  have d1 : ¬ (sz : Int) < 128 := by omega
  have d2 : (sz : Int) / 64 = (r : Int) := by omega
  have HBS3 := Lib.hid fun W (hW : Below w3.heap.size w3 W) => HBS.out.after (bj HB13.out hW)
  have HV3 := Lib.hid fun W (hW : Below w3.heap.size w3 W) => HV.out.below (bj HB13.out hW) (Nat.le_refl _)
  clear b2 b3 hrow hb4 hgb hsz hr hq hw4 hcap hszr c0 c1 HBS HV HM HP
  go_wp2_with fail
  clear hcv d1
  have HSL := Lib.hid (show S.data.toList.length = sz by rw [dl_size]; exact HSZ.out.1)
  obtain ⟨at', hat⟩ : ∃ at' : Nat → Nat, (fun j => l2.getD j 0 / 256 % 61) = at' := ⟨_, rfl⟩
  have HAT := Lib.hid fun j => (congrFun hat j).symm
  clear hat
  go_loopw [9] (fun v wr => ∃ (P : Nat) (L : List UInt8), P ≤ r ∧ v = .int .i64 P ∧ L.length = sz ∧ RowB wr gb sz (u8At L) ∧ NearP S.data.toList at' P L ∧ Below w3.heap.size w3 wr) (fun v _ => r - (intOf v).toNat)
  case atStart => exact ⟨0, _, Nat.zero_le _, rfl, HSL.out, HR0.out.1, fun j i hi hc => rfl, HR0.out.2.1⟩
  case round =>
    obtain ⟨P, L, hP, rfl, hL, hR, hN, hbel⟩ := hrel
    by_cases hlt : P < r
    · have s1 : (P : Int) < (r : Int) := by omega
      have hP6 : P < 6 := by omega
      have cz : wr.cell? ⟨w.heap.size + 1, P, none⟩ = some (.int .u32 ((l2.getD P 0 : Nat) : Int)) := ((HBS3.out wr hbel).cell P).trans (HD.out P hP6)
      have hz32 : l2.getD P 0 < 4294967296 := hw6 _ (by rw [List.getD_eq_getElem?_getD, List.getElem?_eq_getElem (by omega)]; exact List.getElem_mem _)
      obtain ⟨z, hz⟩ : ∃ z, l2.getD P 0 = z := ⟨_, rfl⟩
      rw [hz] at cz hz32
      obtain ⟨z8, hz8⟩ : ∃ z8, z / 256 = z8 := ⟨_, rfl⟩
      obtain ⟨aP, haP⟩ : ∃ aP, z8 % 61 = aP := ⟨_, rfl⟩
      have haP2 : at' P = aP := by rw [HAT.out P, hz, hz8, haP]
      have haP3 : aP ≤ 60 := by omega
      obtain ⟨kk, hkk⟩ : ∃ kk, 64 * P + aP = kk := ⟨_, rfl⟩
      have e1 : (z : Int) / 256 = (z8 : Int) := by omega
      have e2 : (z8 : Int) % 61 = (aP : Int) := by omega
      have e3 : 64 * (P : Int) + (aP : Int) = (kk : Int) := by omega
      have s2 : (P : Int) < 6 := by omega
      have HAP := Lib.hid (And.intro haP2 (And.intro haP3 hkk))
      have HRR := Lib.hid (And.intro hL (And.intro hR (And.intro hN.next hbel)))
      have hkk2 : kk + 4 ≤ sz := by have := HSZ.out.2.1; omega
      clear hz hz8 haP haP2 haP3 hkk hL hR hN hbel
      obtain ⟨wy, rfl⟩ : ∃ wy, wy = wr := ⟨_, rfl⟩
      go_wp2_with fail
      go_loopw [11] (fun v wr => ∃ (i : Nat) (L : List UInt8), i ≤ 4 ∧ v = .int .i64 i ∧ L.length = sz ∧ RowB wr gb sz (u8At L) ∧ NearP S.data.toList at' (P + 1) L ∧ Below w3.heap.size w3 wr) (fun v _ => 4 - (intOf v).toNat)
      case atStart => exact ⟨0, L, Nat.zero_le _, rfl, HRR.out⟩
      case round =>
        clear cz e1 e2 e3
        obtain ⟨i, L1, hi, rfl, hL, hR, hN, hbel⟩ := hrel
        have cz : wr.cell? ⟨w.heap.size + 1, P, none⟩ = some (.int .u32 ((l2.getD P 0 : Nat) : Int)) := ((HBS3.out wr hbel).cell P).trans (HD.out P hP6)
        obtain ⟨z', hz'⟩ : ∃ z', l2.getD P 0 = z' := ⟨_, rfl⟩
        rw [hz'] at cz
        clear hz'
        by_cases hi4 : i < 4
        · have s3 : (i : Int) < 4 := by omega
          obtain ⟨j, hj⟩ : ∃ j, kk + i = j := ⟨_, rfl⟩
          obtain ⟨i7, hi7⟩ : ∃ i7, 7 * i = i7 := ⟨_, rfl⟩
          have e1 : (kk : Int) + (i : Int) = (j : Int) := by omega
          have e2 : 7 * (i : Int) = (i7 : Int) := by omega
          have e2b : IntKind.i64.wrap (7 * (i : Int)) = (i7 : Int) := by rw [IntKind.wrap_i64]; omega
          have hjs : j < sz := by omega
          have s4 : (j : Int) < (sz : Int) := by omega
          obtain ⟨zs, hzs⟩ : ∃ zs, z' / 2 ^ i7 = zs := ⟨_, rfl⟩
          have e4 : (z' : Int) / 2 ^ i7 = (zs : Int) := by rw [← hzs]; simp
          obtain ⟨zv, hzv⟩ : ∃ zv, zs % 256 = zv := ⟨_, rfl⟩
          have e5 : (zs : Int) % 256 = (zv : Int) := by omega
          have e5b : IntKind.u8.wrap (zs : Int) = (zv : Int) := by rw [IntKind.wrap_u8]; omega
          have hzv2 : zv < 256 := by omega
          have c5 := hR.cell hjs
          have f5 := hR.frozen hjs
          unfold u8At at c5
          have h8 := (L1.getD j 0).toNat_lt
          obtain ⟨zc, hzc⟩ : ∃ zc, (L1.getD j 0).toNat = zc := ⟨_, rfl⟩
          rw [hzc] at c5 h8
          obtain ⟨zd, hzd, hzd2⟩ := xor8 zc zv h8 hzv2
          have hR2 := (hR.set j (.int .u8 (zd : Int))).congr fun i' hi' => u8At_set L1 j zd hzd2 i' (by omega)
          have hb2 := hbel.setCell (p := ⟨gb, j, none⟩) (by rw [← HR0.out.2.2]; exact Nat.le_refl _) (.int .u8 (zd : Int))
          have hN2 : NearP S.data.toList at' (P + 1) (L1.set j (UInt8.ofNat zd)) := by
            have := hN.set (by rw [HAP.out.1]; exact HAP.out.2.1) hi4 (UInt8.ofNat zd)
            rw [HAP.out.1, HAP.out.2.2, hj] at this
            exact this
          have HRX := Lib.hid (And.intro hR2 (And.intro hN2 hb2))
          have hL2 : (L1.set j (UInt8.ofNat zd)).length = sz := by rw [List.length_set]; exact hL
          obtain ⟨wx, rfl⟩ : ∃ wx, wx = wr := ⟨_, rfl⟩
          clear hR2 hb2 hN2 hj hi7 hzs hzv hzc hR hN hbel hzv2 h8
          go_wp2_with fail
          go_region
          all_goals
            go_wp2
            go_roundw
            case rel => exact ⟨i + 1, _, by omega, by go_num, hL2, HRX.out.1.drew, HRX.out.2.1, HRX.out.2.2.drew⟩
            case measure => simp [intOf]; omega
        · obtain rfl : i = 4 := by omega
          have HRX := Lib.hid (And.intro hL (And.intro hR (And.intro hN hbel)))
          clear hL hR hN hbel
          go_wp2
          go_roundw
          case rel => exact ⟨P + 1, _, by omega, by go_num, HRX.out⟩
          case measure => simp [intOf]; omega
    · obtain rfl : P = r := by omega
      have s1 : ¬ (P : Int) < (P : Int) := by omega
      have hcv := conv_out hR hL cap
      obtain ⟨t, ht⟩ : ∃ t, (⟨L.toArray⟩ : ByteArray) = t := ⟨_, rfl⟩
      have htl : t.data.toList = L := by rw [← ht]
      have hts : t.size = S.size := by rw [← dl_size, htl, hL, HSZ.out.1]
      have hK : KeepP S t := near_keep HWH.out hts at' fun j i hi hc => by
        rw [htl]
        exact hN j i hi (Or.inr hc)
      have HYES2 := Lib.hid fun (g : Nat) (hg : g ∈ l) => HYES.out t hK g hg
      have ht5 : t.size ≤ 1000000 := by have := HSZ.out; omega
      have HL := Lib.hid fun W => load_any t W ht5
      have HMY := Lib.hid fun f (g : Nat) W (hg : g < 18446744073709551616) h => may_any f g t W hg h
      rw [ht] at hcv
      have HBL := Lib.hid (bj HB13.out hbel)
      have HV6 := Lib.hid (HV3.out wr hbel)
      have d3 : (sz : Int) / 64 = (P : Int) := d2
      clear htl hts hK ht hN hR hL hbel HYES HWH HV3 HBS3 HR0
      go_wp2_with fail
      refine (HL.out _).mono ?_
      rintro e w6 ⟨f, rfl, hf, b6⟩
      obtain ⟨f0, f1, f2, rfl⟩ := hf.form
      have HF := Lib.hid hf
      have HV7 := Lib.hid (HV6.out.below b6 (Nat.le_refl _))
      have HB6 := Lib.hid (bj HB1.out (bj HBL.out b6))
      clear hf b6 HV6
      go_wp2_with fail
      have hB7 := Blok.new w6 28 #[.int .i64 f0, .int .i64 f1, .map f2]
      have hb7 := (Below.refl w6.heap.size w6).alloc (Nat.le_refl _) (.cells #[.int .i64 f0, .int .i64 f1, .map f2] 28)
      obtain ⟨w7, hw7⟩ : ∃ w7, w6.alloc (.cells #[.int .i64 f0, .int .i64 f1, .map f2] 28) = w7 := ⟨_, rfl⟩
      rw [hw7] at hB7 hb7 ⊢
      obtain ⟨fb, hfb⟩ : ∃ fb, w6.heap.size = fb := ⟨_, rfl⟩
      have hF7 := HF.out.below hb7
      have hV7 := HV7.out.below hb7 (Nat.le_refl _)
      have HB7 := Lib.hid (bj HB6.out hb7)
      rw [hfb] at hB7 ⊢
      have HH := Lib.hid (And.intro hB7 hF7)
      clear hw7 hfb hb7 hB7 hF7 HF HB6 HV7
      go_loopw [13] (fun ii wr => ∃ k : Nat, k ≤ l.length ∧ ii = .int .i64 k ∧ Below w7.heap.size w7 wr) (fun ii _ => l.length - (intOf ii).toNat)
      case atStart => exact ⟨0, Nat.zero_le _, rfl, Below.refl _ _⟩
      case round =>
        obtain ⟨k, hk, rfl, hbel⟩ := hrel
        by_cases hlt : k < l.length
        · obtain ⟨q0, off, rfl, hb0, hcap, hcell⟩ := hV7.at (by omega)
          have hcx := fun W (hW : Below w7.heap.size w7 W) => (hW.cell (p := ⟨q0, off + k, none⟩) hb0).trans (hcell k hlt)
          have hg := words_at wl k
          have hgm : l.getD k 0 ∈ l := by rw [List.getD_eq_getElem?_getD, List.getElem?_eq_getElem hlt]; exact List.getElem_mem hlt
          unfold u64V at hcx
          generalize l.getD k 0 = g at *
          have hyes := HYES2.out g hgm
          have HS : Hid (∀ W, Below wr.heap.size wr W → Below wr.heap.size wr W ∧ W.cell? ⟨fb, 0, none⟩ = some (.int .i64 f0) ∧ W.cell? ⟨fb, 1, none⟩ = some (.int .i64 f1) ∧ W.cell? ⟨fb, 2, none⟩ = some (.map f2) ∧ W.cell? ⟨q0, off + k, none⟩ = some (.int .u64 (g : Nat))) :=
            Lib.hid fun W hW => ⟨hW, (HH.out.1.after (bj hbel hW)).cell 0, (HH.out.1.after (bj hbel hW)).cell 1, (HH.out.1.after (bj hbel hW)).cell 2, hcx W (bj hbel hW)⟩
          have HK1 := Lib.hid fun W (hW : Below wr.heap.size wr W) => HMY.out _ g W hg (HH.out.2.below (bj hbel hW))
          rw [hyes] at HK1
          obtain ⟨-, d0, d1, d2, d3⟩ := HS.out wr (Below.refl _ _)
          have HBR := Lib.hid hbel
          have s3 : (k : Int) < (l.length : Int) := by omega
          clear hbel hcx hcell hyes
          go_wp2_with fail
          go_region_held3 (fun W => Below wr.heap.size wr W ∧ W.cell? ⟨fb, 0, none⟩ = some (.int .i64 f0) ∧ W.cell? ⟨fb, 1, none⟩ = some (.int .i64 f1) ∧ W.cell? ⟨fb, 2, none⟩ = some (.map f2) ∧ W.cell? ⟨q0, off + k, none⟩ = some (.int .u64 (g : Nat)))
            (first | (with_reducible assumption) | ((with_reducible refine HS.out _ ?_); (repeat' (first | (with_reducible assumption) | (with_reducible exact Below.refl _ _) | (with_reducible refine Below.drew ?_))); done) | fail)
            (first
            | (go_at_call 13; ((with_reducible refine (HK1.out _ (And.left (by with_reducible assumption))).mono ?_); rintro e w' ⟨rfl, hb⟩; have hB2 := hold_pg hb (by with_reducible assumption)))
            | fail)
          all_goals
            go_wp2
            go_roundw
            case rel => exact ⟨k + 1, hlt, by go_num, bj HBR.out (And.left (by with_reducible assumption))⟩
            case measure => simp [intOf]; omega
        · obtain rfl : k = l.length := by omega
          have s3 : ¬ (l.length : Int) < (l.length : Int) := by omega
          have HBR := Lib.hid (bj HB7.out hbel)
          clear hbel
          go_wp2_with fail
          refine (HE.out _).mono ?_
          rintro e w9 ⟨rfl, hb9⟩
          go_wp2
          go_ret
          exact ⟨rfl, bj HBR.out hb9⟩

theorem walk (w : World) (v : Value) (l : List Nat) (x y : Int) (l2 : List Nat) (hv : RowOf u64V w v l) (wl : Words l) (wx : (Lit.int .u8 x).wf = true) (wy : (Lit.int .u8 y).wf = true) (h2 : l2.length = 6 ∧ ∀ z ∈ l2, z < 4294967296) :
    Calls Try.prog 8 #[v, .agg #[.int .u8 x, .int .u8 y], arr6 l2] w fun e w' => e = .returned (.bool true) ∧ Below w.heap.size w w' := by
  by_cases h : l.length ≤ 60
  · obtain ⟨a, rfl, ha⟩ := u8_nat wx
    obtain ⟨b, rfl, hb⟩ := u8_nat wy
    exact short v l l2 a b w hv wl h2.1 h2.2 ha hb h
  · exact long v l l2 x y w hv (by omega)
end Go.Proofs.Ytfnppmiapjhjlaa.PgNr

/- PtRefusedWalk -/
import Derived.Test.YtmbhafabphogdaaGreatRk45
import Derived.Test.YtmbhafabphogdaaGreatRk33
import Derived.Test.YtmbhafabphogdaaGreatRk23
import Derived.Test.YtmbhafabphogdaaGreatRk04
import Derived.BigRegion
/- PtRefusedWalk -/
namespace Go.Proofs.YtmbhafabphogdaaGreat.PtRf
open Go.RowKit
set_option linter.unusedVariables false
set_option maxRecDepth 100000

section
variable {At : Lies} (api : DiskApi At) (nap : NamesApi)
include api nap
theorem long (w : World) (v : Value) (l : List EntS) (room n : Int) (hl : EntsIn w v l) (h : 60 < l.length) :
    Calls Tryz.prog 6 #[v, .int .u16 room, .int .i64 n] w fun e w' => e = .returned (.bool true) ∧ Below w.heap.size w w' := by
  obtain ⟨A, off, c, rfl, -, -⟩ := hl.form
  have HE := Lib.hid (small_true api nap w)
  have s1 : decide ((60 : Int) < (l.length : Int)) = true := decide_eq_true (by omega)
  clear h hl
  go_enter Tryz.func6, Tryz.ntmps6
  go_wp2_with fail
  refine HE.out.mono ?_
  rintro e w2 ⟨rfl, hb2⟩
  go_wp2
  go_ret
  exact ⟨rfl, hb2⟩
set_option maxHeartbeats 20000000 in
theorem short (w : World) (v : Value) (l : List EntS) (room : Nat) (n : Int) (hl : EntsIn w v l) (wl : ∀ x ∈ l, EntOk x) (hroom : room < 65536) (wn : (Lit.int .i64 n).wf = true) (h1 : l.length ≤ 60) :
    Calls Tryz.prog 6 #[v, .int .u16 (room : Nat), .int .i64 n] w fun e w' => e = .returned (.bool true) ∧ Below w.heap.size w w' := by
  have HMd := Lib.hid (made_any v l w hl (by omega))
  have hml := madeE_length l
  obtain ⟨mok, mtb⟩ := madeE_ok l
  obtain ⟨A, off, c0, rfl, -, -⟩ := hl.form
  have s1 : decide ((60 : Int) < (l.length : Int)) = false := decide_eq_false (by omega)
  have HX := Lib.hid (And.intro mok (And.intro mtb wn))
  have HSml := Lib.hid fun W => small_true api nap W
  generalize madeE l = M at *
  have hM : M.length ≤ 60 := by omega
  clear hl wl mok mtb hml wn
  generalize hz1 : l.length = z1 at *
  clear hz1 h1
  obtain ⟨a, ha⟩ : ∃ a : Nat, room % 3000 = a := ⟨_, rfl⟩
  have ha2 : a < 3000 := by rw [← ha]; exact Nat.mod_lt _ (by decide)
  have g4 : (room : Int) % 3000 = (a : Int) := by rw [← ha]; push_cast; rfl
  have g5 : IntKind.i64.wrap (room : Int) = (room : Int) := IntWalk.i64_in _ ⟨by omega, by omega⟩
  obtain ⟨c, hc⟩ : ∃ c : Nat, 6000 + a = c := ⟨_, rfl⟩
  have g1 : IntKind.i64.wrap (6000 + (a : Int)) = (c : Int) := by rw [IntWalk.i64_in _ ⟨by omega, by omega⟩]; omega
  have hc6 : 6000 ≤ c := by omega
  have hc9 : c ≤ 9000 := by omega
  clear ha hc ha2
  go_enter Tryz.func6, Tryz.ntmps6
  go_wp2_with fail
  refine HMd.out.mono ?_
  rintro e w1 ⟨A1, c1, rfl, r1, b1⟩
  have hE1 : ∀ b ∈ ownL (.slice A1 M.length c1), b < w1.heap.size := fun b hb => (row_own r1 b hb).2
  have HN : Hid (Calls Tryz.prog 9 #[.int .i64 (c : Nat)] w1 fun e w' => ∃ gd, e = .returned (.tuple #[ptr gd, .int .i64 0]) ∧ DS At w gd (newS c) (ownL (.slice A1 M.length c1)) w' ∧ Kept (ownL (.slice A1 M.length c1)) w1 w') := Lib.hid (ds_new api w w1 _ b1 hE1 c (by omega))
  have H1 := Lib.hid r1
  clear r1 b1 hE1 HMd
  go_wp2_with fail
  refine HN.out.mono ?_
  rintro e w2 ⟨gd, rfl, d2, k2⟩
  have r2 := k2.row H1.out (fun b hb => hb)
  have HW12 := Lib.hid fun W (hW : EntRow W w.heap.size (.slice A1 M.length c1) M ∧ DS At w gd (newS c) (ownL (.slice A1 M.length c1)) W) => (write_new api nap hW.2 (by omega) hc6 (.slice A1 M.length c1) M hW.1.in_ (by omega) HX.out.1 HX.out.2.1).mono (fun e w' (he : (e = .returned (.int .i64 0) ∧ ∃ D' E0, RfD D' E0 ∧ DS At w gd D' (ownL (.slice A1 M.length c1)) w' ∧ Kept (ownL (.slice A1 M.length c1)) W w') ∨ (e = .returned (.int .i64 60) ∧ ∃ D' E0, D'.l = [] ∧ RfD D' E0 ∧ DS At w gd D' (ownL (.slice A1 M.length c1)) w' ∧ Kept (ownL (.slice A1 M.length c1)) W w')) =>
    (show (e = .returned (.int .i64 0) ∧ ∃ D' E0, RfD D' E0 ∧ DS At w gd D' (ownL (.slice A1 M.length c1)) w' ∧ EntRow w' w.heap.size (.slice A1 M.length c1) M) ∨ (e = .returned (.int .i64 60) ∧ ∃ D' E0, D'.l = [] ∧ RfD D' E0 ∧ DS At w gd D' (ownL (.slice A1 M.length c1)) w' ∧ EntRow w' w.heap.size (.slice A1 M.length c1) M) from by
      rcases he with ⟨e1, D', E0, q1, q2, q3⟩ | ⟨e1, D', E0, q0, q1, q2, q3⟩
      · exact Or.inl ⟨e1, D', E0, q1, q2, q3.row hW.1 (fun b hb => hb)⟩
      · exact Or.inr ⟨e1, D', E0, q0, q1, q2, q3.row hW.1 (fun b hb => hb)⟩))
  have HBad := Lib.hid fun W (l' : List EntS) (hl' : l'.length = M.length) (hok : ∀ x ∈ l', EntOk x) (hbad : tbOk l' = false) (hW : EntRow W w.heap.size (.slice A1 M.length c1) l' ∧ DS At w gd (newS c) (ownL (.slice A1 M.length c1)) W) => (show Calls Tryz.prog 10 #[ptr gd, .int .i64 1, .slice A1 M.length c1, .float .f64 4607182418800017408] W fun e w' => e = .returned (.int .i64 2) ∧ EntRow w' w.heap.size (.slice A1 M.length c1) l' ∧ DS At w gd (newS c) (ownL (.slice A1 M.length c1)) w' from
    (pwrite_bad nap (ptr gd) 1 (by decide) (.slice A1 M.length c1) l' hW.1.in_ (by omega) hok 4607182418800017408 (Or.inr hbad)).mono (fun e w' he => ⟨he.1, EntRow.below hW.1 he.2 (Nat.le_refl _), hW.2.below api he.2⟩))
  have H2 := Lib.hid (And.intro r2 d2)
  clear k2 HN H1 d2 r2 g1 g4 g5
  by_cases h2 : 1 < M.length
  · have s2 : decide ((1 : Int) < (M.length : Int)) = true := decide_eq_true (by omega)
    have j1 : (1 : Int) < (M.length : Int) := by omega
    have j0 : (0 : Int) < (M.length : Int) := by omega
    obtain ⟨g, x0, x1, rfl, hg, m0, m1, ⟨c0, c1', c2⟩, ⟨c3, c4, c5⟩, ⟨f0, f1, f2⟩, ⟨f3, f4, f5⟩⟩ := row_two H2.out.1 rfl h2
    obtain ⟨q0, q1⟩ := set_back m0 m1
    have HM1 := Lib.hid (And.intro (set_bad m0 m1 HX.out.2.1) (And.intro (set_ok m0 m1 HX.out.1) (And.intro q0 q1)))
    have HG := Lib.hid hg
    clear m0 m1 q0 q1 hg
    go_wp2
    go_region
    go_wp2_with fail
    refine (HBad.out _ _ (by rw [List.length_set, List.length_set]) HM1.out.2.1 HM1.out.1 (both_drew api (swap_both api H2.out.1 H2.out.2 rfl h2 HG.out x0 x1))).mono ?_
    rintro e w3 ⟨rfl, r3, d3⟩
    clear c0 c1' c2 c3 c4 c5 f0 f1 f2 f3 f4 f5
    obtain ⟨g', y0, y1, hgg, -, m0', m1', ⟨c0, c1', c2⟩, ⟨c3, c4, c5⟩, ⟨f0, f1, f2⟩, ⟨f3, f4, f5⟩⟩ := row_two r3 (by rw [List.length_set, List.length_set]) h2
    obtain rfl : g = g' := by injection hgg with hgg; injection hgg
    obtain rfl : x1 = y0 := Option.some.inj (HM1.out.2.2.1.1.symm.trans m0')
    obtain rfl : x0 = y1 := Option.some.inj (HM1.out.2.2.1.2.symm.trans m1')
    have H3 := Lib.hid (And.intro r3 d3)
    clear r3 d3 m0' m1' hgg HBad
    go_wp2
    go_region
    have hb := both_drew api (swap_both api H3.out.1 H3.out.2 (by rw [List.length_set, List.length_set]) h2 HG.out x1 x0)
    rw [HM1.out.2.2.2] at hb
    have HB := Lib.hid (HW12.out _ hb)
    clear hb c0 c1' c2 c3 c4 c5 f0 f1 f2 f3 f4 f5 H3 HW12 H2
    go_wp2_with fail
    refine HB.out.mono ?_
    clear HB HM1 HG
    rintro e w3 (⟨rfl, D', E0, rf, d3, r3⟩ | ⟨rfl, D', E0, n0, rf, d3, r3⟩)
    · have HF := Lib.hid (d3.free6 api rf)
      have H4 := Lib.hid (And.intro rf r3)
      clear rf d3 r3
      go_wp2_with fail
      refine HF.out.mono ?_
      rintro e w4 ⟨f, sf, rfl, d4, k4⟩
      have r4 := k4.row H4.out.2 (fun b hb => hb)
      have HRf := Lib.hid H4.out.1
      clear k4 HF H4
      by_cases hn : ptT n = ByteArray.empty
      · have HNt : Hid (∀ W, Calls Tryz.prog 23 #[.int .i64 n] W fun e w' => e = .returned (.string ByteArray.empty) ∧ Below W.heap.size W w') := Lib.hid fun W => by
          have h := nap.table n W HX.out.2.2
          rw [show nmS 116 n = ByteArray.empty from hn] at h
          exact h
        have HB := Lib.hid fun W (hW : EntRow W w.heap.size (.slice (some ⟨g, 0, none⟩) M.length c1) M) => (show Calls Tryz.prog 10 #[ptr gd, .int .i64 n, (.slice (some ⟨g, 0, none⟩) M.length c1), .float .f64 4607182418800017408] W fun e w' => e = .returned (.int .i64 2) ∧ Below W.heap.size W w' from pwrite_bad nap (ptr gd) n HX.out.2.2 (.slice (some ⟨g, 0, none⟩) M.length c1) M hW.in_ (by omega) HX.out.1 4607182418800017408 (Or.inl hn))
        have H4 := Lib.hid (And.intro d4 r4)
        clear hn d4 r4
        go_wp2_with fail
        refine (HNt.out _).mono ?_
        rintro e w5 ⟨rfl, b5⟩
        have d5 := H4.out.1.below api b5
        have r5 := EntRow.below H4.out.2 b5 (Nat.le_refl _)
        have HB2 := Lib.hid (HB.out _ r5)
        have H5 := Lib.hid (And.intro d5 r5)
        clear d5 r5 b5 HB H4 HNt
        go_wp2_with fail
        refine HB2.out.mono ?_
        rintro e w7 ⟨rfl, b7⟩
        have d7 := H5.out.1.below api b7
        have r7 := EntRow.below H5.out.2 b7 (Nat.le_refl _)
        clear b7 HB2 H5
        have HD1 := Lib.hid (d7.drop1 api nap HRf.out)
        have H7 := Lib.hid r7
        clear d7 r7
        go_wp2_with fail
        refine HD1.out.mono ?_
        rintro e w8 ⟨rfl, d8, k8⟩
        have HNa2 := Lib.hid (d8.names api HRf.out.up0 HRf.out.none)
        have H8 := Lib.hid (k8.row H7.out (fun b hb => hb))
        clear d8 k8 H7 HD1
        go_wp2_with fail
        refine HNa2.out.mono ?_
        rintro e w9 ⟨A9, c9, rfl, d9, k9⟩
        have HD2 := Lib.hid (d9.drop2 api nap HRf.out)
        have H9 := Lib.hid (k9.row H8.out (fun b hb => hb))
        clear d9 k9 H8 HNa2
        go_wp2_with fail
        refine HD2.out.mono ?_
        rintro e w10 ⟨rfl, d10, k10⟩
        have HCr := Lib.hid (d10.crash0 api HRf.out.up0)
        have H10 := Lib.hid (k10.row H9.out (fun b hb => hb))
        clear d10 k10 H9 HD2
        go_wp2_with fail
        refine HCr.out.mono ?_
        rintro e w11 ⟨D2, rfl, hdn, hwf, d11, k11⟩
        have HOp := Lib.hid (show Calls Tryz.prog 12 #[ptr gd, .int .i64 1] w11 fun e w' => e = .returned (.tuple #[.pointer none, .int .i64 61]) ∧ w11 = w' from popen_down api d11 hwf 1 hdn)
        have HRg := Lib.hid (show Calls Tryz.prog 31 #[.pointer none, .int .u64 1, .int .i64 0, .int .i64 9] w11 fun e w' => e = .returned (.tuple #[.slice none 0 0, .int .i64 1]) ∧ w11 = w' from ptrange_nil 1 0 9 9 w11 (by decide))
        have HLa := Lib.hid (show Calls Tryz.prog 32 #[.pointer none, .int .u64 1, .int .i64 9] w11 fun e w' => e = .returned (.tuple #[.agg #[.int .u64 0, .int .i64 0, .int .i64 0], .bool false, .int .i64 1]) ∧ Below w11.heap.size w11 w' from ptlast_nil 1 9 9 w11 (by decide))
        have HAl := Lib.hid fun W => (show Calls Tryz.prog 15 #[.pointer none] W fun e w' => e = .returned (.tuple #[.slice none 0 0, .int .i64 1]) ∧ W = w' from ptall_nil W)
        have HOn := Lib.hid fun W => (show Calls Tryz.prog 12 #[.pointer none, .int .i64 1] W fun e w' => e = .returned (.tuple #[.pointer none, .int .i64 1]) ∧ W = w' from popen_nil 1 W)
        have HWd := Lib.hid fun W (hd : DS At w gd D2 (ownL (.slice (some ⟨g, 0, none⟩) M.length c1)) W) (hr : EntRow W w.heap.size (.slice (some ⟨g, 0, none⟩) M.length c1) M) => (show Calls Tryz.prog 10 #[ptr gd, .int .i64 1, (.slice (some ⟨g, 0, none⟩) M.length c1), .float .f64 4607182418800017408] W fun e w' => e = .returned (.int .i64 61) ∧ Below W.heap.size W w' from pwrite_up nap (ptr gd) 61 (by decide) 1 (by decide) (.slice (some ⟨g, 0, none⟩) M.length c1) M hr.in_ (by omega) HX.out.1 4607182418800017408 (pt_full (n := 1) (by decide)) HX.out.2.1 (fun W' hb => by
          have h := ptup_run api (hd.below api hb) hwf
          rw [if_pos hdn] at h
          exact h))
        have HWn := Lib.hid fun W (hr : EntRow W w.heap.size (.slice (some ⟨g, 0, none⟩) M.length c1) M) => (show Calls Tryz.prog 10 #[.pointer none, .int .i64 1, (.slice (some ⟨g, 0, none⟩) M.length c1), .float .f64 4607182418800017408] W fun e w' => e = .returned (.int .i64 1) ∧ Below W.heap.size W w' from pwrite_up nap (.pointer none) 1 (by decide) 1 (by decide) (.slice (some ⟨g, 0, none⟩) M.length c1) M hr.in_ (by omega) HX.out.1 4607182418800017408 (pt_full (n := 1) (by decide)) HX.out.2.1 (fun W' hb => up_nil2 W'))
        have HDn := Lib.hid fun W => (show Calls Tryz.prog 29 #[.pointer none, .int .i64 1] W fun e w' => e = .returned (.int .i64 1) ∧ Below W.heap.size W w' from pdrop_nil nap 1 (by decide) W)
        have HLn := Lib.hid fun W => ptlen_nil W
        have HMy := Lib.hid fun W => (show Calls Tryz.prog 33 #[.pointer none, .int .u64 0] W fun e w' => e = .returned (.bool false) ∧ W = w' from ptmay_nil 0 W)
        have H11 := Lib.hid (And.intro d11 (k11.row H10.out (fun b hb => hb)))
        clear d11 k11 H10 HCr hdn hwf
        go_wp2_with fail
        refine HOp.out.mono ?_
        rintro e w' ⟨rfl, rfl⟩
        go_wp2_with fail
        refine HRg.out.mono ?_
        rintro e w' ⟨rfl, rfl⟩
        go_wp2_with fail
        refine HLa.out.mono ?_
        rintro e w12 ⟨rfl, b12⟩
        have H12 := Lib.hid (And.intro (H11.out.1.below api b12) (EntRow.below H11.out.2 b12 (Nat.le_refl _)))
        clear b12 H11 HOp HRg HLa
        go_wp2_with fail
        refine (HAl.out _).mono ?_
        rintro e w13 ⟨rfl, hw13⟩
        have b13 : Below w12.heap.size w12 w13 := by rw [← hw13]; exact (Below.refl _ _).alloc (Nat.le_refl _) _
        have H13 := Lib.hid (And.intro (H12.out.1.below api b13) (EntRow.below H12.out.2 b13 (Nat.le_refl _)))
        clear b13 hw13 H12 HAl
        go_wp2_with fail
        refine (HOn.out _).mono ?_
        rintro e w' ⟨rfl, rfl⟩
        have HWd2 := Lib.hid (HWd.out _ H13.out.1 H13.out.2)
        clear HWd
        go_wp2_with fail
        refine HWd2.out.mono ?_
        rintro e w14 ⟨rfl, b14⟩
        have H14 := Lib.hid (And.intro (bj H13.out.1.kept b14) (EntRow.below H13.out.2 b14 (Nat.le_refl _)))
        clear b14 H13 HWd2
        have HWn2 := Lib.hid (HWn.out _ H14.out.2)
        clear HWn
        go_wp2_with fail
        refine HWn2.out.mono ?_
        rintro e w15 ⟨rfl, b15⟩
        have H15 := Lib.hid (bj H14.out.1 b15)
        clear b15 H14 HWn2
        go_wp2_with fail
        refine (HDn.out _).mono ?_
        rintro e w16 ⟨rfl, b16⟩
        have H16 := Lib.hid (bj H15.out b16)
        clear b16 H15 HDn
        go_wp2_with fail
        refine (HLn.out _).mono ?_
        rintro e w' ⟨rfl, rfl⟩
        go_wp2_with fail
        refine (HMy.out _).mono ?_
        rintro e w' ⟨rfl, rfl⟩
        go_wp2_with fail
        refine (HSml.out _).mono ?_
        rintro e w17 ⟨rfl, b17⟩
        have H17 := Lib.hid (bj H16.out b17)
        clear b17
        go_wp2
        go_ret
        exact ⟨rfl, H17.out⟩
      · obtain ⟨n1, n2⟩ := nm_full (c := 116) (n := n) hn
        have HNt := Lib.hid fun W => nap.table n W HX.out.2.2
        generalize nmS 116 n = nm at *
        have H4 := Lib.hid (And.intro d4 r4)
        clear hn d4 r4
        go_wp2_with fail
        refine (HNt.out _).mono ?_
        rintro e w7 ⟨rfl, b7⟩
        have d7 := H4.out.1.below api b7
        have r7 := EntRow.below H4.out.2 b7 (Nat.le_refl _)
        clear b7 H4 HNt
        have HD1 := Lib.hid (d7.drop1 api nap HRf.out)
        have H7 := Lib.hid r7
        clear d7 r7
        go_wp2_with fail
        refine HD1.out.mono ?_
        rintro e w8 ⟨rfl, d8, k8⟩
        have HNa2 := Lib.hid (d8.names api HRf.out.up0 HRf.out.none)
        have H8 := Lib.hid (k8.row H7.out (fun b hb => hb))
        clear d8 k8 H7 HD1
        go_wp2_with fail
        refine HNa2.out.mono ?_
        rintro e w9 ⟨A9, c9, rfl, d9, k9⟩
        have HD2 := Lib.hid (d9.drop2 api nap HRf.out)
        have H9 := Lib.hid (k9.row H8.out (fun b hb => hb))
        clear d9 k9 H8 HNa2
        go_wp2_with fail
        refine HD2.out.mono ?_
        rintro e w10 ⟨rfl, d10, k10⟩
        have HCr := Lib.hid (d10.crash0 api HRf.out.up0)
        have H10 := Lib.hid (k10.row H9.out (fun b hb => hb))
        clear d10 k10 H9 HD2
        go_wp2_with fail
        refine HCr.out.mono ?_
        rintro e w11 ⟨D2, rfl, hdn, hwf, d11, k11⟩
        have HOp := Lib.hid (show Calls Tryz.prog 12 #[ptr gd, .int .i64 1] w11 fun e w' => e = .returned (.tuple #[.pointer none, .int .i64 61]) ∧ w11 = w' from popen_down api d11 hwf 1 hdn)
        have HRg := Lib.hid (show Calls Tryz.prog 31 #[.pointer none, .int .u64 1, .int .i64 0, .int .i64 9] w11 fun e w' => e = .returned (.tuple #[.slice none 0 0, .int .i64 1]) ∧ w11 = w' from ptrange_nil 1 0 9 9 w11 (by decide))
        have HLa := Lib.hid (show Calls Tryz.prog 32 #[.pointer none, .int .u64 1, .int .i64 9] w11 fun e w' => e = .returned (.tuple #[.agg #[.int .u64 0, .int .i64 0, .int .i64 0], .bool false, .int .i64 1]) ∧ Below w11.heap.size w11 w' from ptlast_nil 1 9 9 w11 (by decide))
        have HAl := Lib.hid fun W => (show Calls Tryz.prog 15 #[.pointer none] W fun e w' => e = .returned (.tuple #[.slice none 0 0, .int .i64 1]) ∧ W = w' from ptall_nil W)
        have HOn := Lib.hid fun W => (show Calls Tryz.prog 12 #[.pointer none, .int .i64 1] W fun e w' => e = .returned (.tuple #[.pointer none, .int .i64 1]) ∧ W = w' from popen_nil 1 W)
        have HWd := Lib.hid fun W (hd : DS At w gd D2 (ownL (.slice (some ⟨g, 0, none⟩) M.length c1)) W) (hr : EntRow W w.heap.size (.slice (some ⟨g, 0, none⟩) M.length c1) M) => (show Calls Tryz.prog 10 #[ptr gd, .int .i64 1, (.slice (some ⟨g, 0, none⟩) M.length c1), .float .f64 4607182418800017408] W fun e w' => e = .returned (.int .i64 61) ∧ Below W.heap.size W w' from pwrite_up nap (ptr gd) 61 (by decide) 1 (by decide) (.slice (some ⟨g, 0, none⟩) M.length c1) M hr.in_ (by omega) HX.out.1 4607182418800017408 (pt_full (n := 1) (by decide)) HX.out.2.1 (fun W' hb => by
          have h := ptup_run api (hd.below api hb) hwf
          rw [if_pos hdn] at h
          exact h))
        have HWn := Lib.hid fun W (hr : EntRow W w.heap.size (.slice (some ⟨g, 0, none⟩) M.length c1) M) => (show Calls Tryz.prog 10 #[.pointer none, .int .i64 1, (.slice (some ⟨g, 0, none⟩) M.length c1), .float .f64 4607182418800017408] W fun e w' => e = .returned (.int .i64 1) ∧ Below W.heap.size W w' from pwrite_up nap (.pointer none) 1 (by decide) 1 (by decide) (.slice (some ⟨g, 0, none⟩) M.length c1) M hr.in_ (by omega) HX.out.1 4607182418800017408 (pt_full (n := 1) (by decide)) HX.out.2.1 (fun W' hb => up_nil2 W'))
        have HDn := Lib.hid fun W => (show Calls Tryz.prog 29 #[.pointer none, .int .i64 1] W fun e w' => e = .returned (.int .i64 1) ∧ Below W.heap.size W w' from pdrop_nil nap 1 (by decide) W)
        have HLn := Lib.hid fun W => ptlen_nil W
        have HMy := Lib.hid fun W => (show Calls Tryz.prog 33 #[.pointer none, .int .u64 0] W fun e w' => e = .returned (.bool false) ∧ W = w' from ptmay_nil 0 W)
        have H11 := Lib.hid (And.intro d11 (k11.row H10.out (fun b hb => hb)))
        clear d11 k11 H10 HCr hdn hwf
        go_wp2_with fail
        refine HOp.out.mono ?_
        rintro e w' ⟨rfl, rfl⟩
        go_wp2_with fail
        refine HRg.out.mono ?_
        rintro e w' ⟨rfl, rfl⟩
        go_wp2_with fail
        refine HLa.out.mono ?_
        rintro e w12 ⟨rfl, b12⟩
        have H12 := Lib.hid (And.intro (H11.out.1.below api b12) (EntRow.below H11.out.2 b12 (Nat.le_refl _)))
        clear b12 H11 HOp HRg HLa
        go_wp2_with fail
        refine (HAl.out _).mono ?_
        rintro e w13 ⟨rfl, hw13⟩
        have b13 : Below w12.heap.size w12 w13 := by rw [← hw13]; exact (Below.refl _ _).alloc (Nat.le_refl _) _
        have H13 := Lib.hid (And.intro (H12.out.1.below api b13) (EntRow.below H12.out.2 b13 (Nat.le_refl _)))
        clear b13 hw13 H12 HAl
        go_wp2_with fail
        refine (HOn.out _).mono ?_
        rintro e w' ⟨rfl, rfl⟩
        have HWd2 := Lib.hid (HWd.out _ H13.out.1 H13.out.2)
        clear HWd
        go_wp2_with fail
        refine HWd2.out.mono ?_
        rintro e w14 ⟨rfl, b14⟩
        have H14 := Lib.hid (And.intro (bj H13.out.1.kept b14) (EntRow.below H13.out.2 b14 (Nat.le_refl _)))
        clear b14 H13 HWd2
        have HWn2 := Lib.hid (HWn.out _ H14.out.2)
        clear HWn
        go_wp2_with fail
        refine HWn2.out.mono ?_
        rintro e w15 ⟨rfl, b15⟩
        have H15 := Lib.hid (bj H14.out.1 b15)
        clear b15 H14 HWn2
        go_wp2_with fail
        refine (HDn.out _).mono ?_
        rintro e w16 ⟨rfl, b16⟩
        have H16 := Lib.hid (bj H15.out b16)
        clear b16 H15 HDn
        go_wp2_with fail
        refine (HLn.out _).mono ?_
        rintro e w' ⟨rfl, rfl⟩
        go_wp2_with fail
        refine (HMy.out _).mono ?_
        rintro e w' ⟨rfl, rfl⟩
        go_wp2_with fail
        refine (HSml.out _).mono ?_
        rintro e w17 ⟨rfl, b17⟩
        have H17 := Lib.hid (bj H16.out b17)
        clear b17
        go_wp2
        go_ret
        exact ⟨rfl, H17.out⟩
    · have HNa := Lib.hid (d3.names api rf.up n0)
      have H4 := Lib.hid (And.intro rf r3)
      clear rf d3 r3 n0
      go_wp2_with fail
      refine HNa.out.mono ?_
      rintro e w3' ⟨A3, c3, rfl, d3, k3⟩
      have HF := Lib.hid (d3.free6 api H4.out.1)
      have H5 := Lib.hid (k3.row H4.out.2 (fun b hb => hb))
      clear d3 k3 HNa
      go_wp2_with fail
      refine HF.out.mono ?_
      rintro e w4 ⟨f, sf, rfl, d4, k4⟩
      have r4 := k4.row H5.out (fun b hb => hb)
      have HRf := Lib.hid H4.out.1
      clear k4 HF H4 H5
      by_cases hn : ptT n = ByteArray.empty
      · have HNt : Hid (∀ W, Calls Tryz.prog 23 #[.int .i64 n] W fun e w' => e = .returned (.string ByteArray.empty) ∧ Below W.heap.size W w') := Lib.hid fun W => by
          have h := nap.table n W HX.out.2.2
          rw [show nmS 116 n = ByteArray.empty from hn] at h
          exact h
        have HB := Lib.hid fun W (hW : EntRow W w.heap.size (.slice (some ⟨g, 0, none⟩) M.length c1) M) => (show Calls Tryz.prog 10 #[ptr gd, .int .i64 n, (.slice (some ⟨g, 0, none⟩) M.length c1), .float .f64 4607182418800017408] W fun e w' => e = .returned (.int .i64 2) ∧ Below W.heap.size W w' from pwrite_bad nap (ptr gd) n HX.out.2.2 (.slice (some ⟨g, 0, none⟩) M.length c1) M hW.in_ (by omega) HX.out.1 4607182418800017408 (Or.inl hn))
        have H4 := Lib.hid (And.intro d4 r4)
        clear hn d4 r4
        go_wp2_with fail
        refine (HNt.out _).mono ?_
        rintro e w5 ⟨rfl, b5⟩
        have d5 := H4.out.1.below api b5
        have r5 := EntRow.below H4.out.2 b5 (Nat.le_refl _)
        have HB2 := Lib.hid (HB.out _ r5)
        have H5 := Lib.hid (And.intro d5 r5)
        clear d5 r5 b5 HB H4 HNt
        go_wp2_with fail
        refine HB2.out.mono ?_
        rintro e w7 ⟨rfl, b7⟩
        have d7 := H5.out.1.below api b7
        have r7 := EntRow.below H5.out.2 b7 (Nat.le_refl _)
        clear b7 HB2 H5
        have HD1 := Lib.hid (d7.drop1 api nap HRf.out)
        have H7 := Lib.hid r7
        clear d7 r7
        go_wp2_with fail
        refine HD1.out.mono ?_
        rintro e w8 ⟨rfl, d8, k8⟩
        have HNa2 := Lib.hid (d8.names api HRf.out.up0 HRf.out.none)
        have H8 := Lib.hid (k8.row H7.out (fun b hb => hb))
        clear d8 k8 H7 HD1
        go_wp2_with fail
        refine HNa2.out.mono ?_
        rintro e w9 ⟨A9, c9, rfl, d9, k9⟩
        have HD2 := Lib.hid (d9.drop2 api nap HRf.out)
        have H9 := Lib.hid (k9.row H8.out (fun b hb => hb))
        clear d9 k9 H8 HNa2
        go_wp2_with fail
        refine HD2.out.mono ?_
        rintro e w10 ⟨rfl, d10, k10⟩
        have HCr := Lib.hid (d10.crash0 api HRf.out.up0)
        have H10 := Lib.hid (k10.row H9.out (fun b hb => hb))
        clear d10 k10 H9 HD2
        go_wp2_with fail
        refine HCr.out.mono ?_
        rintro e w11 ⟨D2, rfl, hdn, hwf, d11, k11⟩
        have HOp := Lib.hid (show Calls Tryz.prog 12 #[ptr gd, .int .i64 1] w11 fun e w' => e = .returned (.tuple #[.pointer none, .int .i64 61]) ∧ w11 = w' from popen_down api d11 hwf 1 hdn)
        have HRg := Lib.hid (show Calls Tryz.prog 31 #[.pointer none, .int .u64 1, .int .i64 0, .int .i64 9] w11 fun e w' => e = .returned (.tuple #[.slice none 0 0, .int .i64 1]) ∧ w11 = w' from ptrange_nil 1 0 9 9 w11 (by decide))
        have HLa := Lib.hid (show Calls Tryz.prog 32 #[.pointer none, .int .u64 1, .int .i64 9] w11 fun e w' => e = .returned (.tuple #[.agg #[.int .u64 0, .int .i64 0, .int .i64 0], .bool false, .int .i64 1]) ∧ Below w11.heap.size w11 w' from ptlast_nil 1 9 9 w11 (by decide))
        have HAl := Lib.hid fun W => (show Calls Tryz.prog 15 #[.pointer none] W fun e w' => e = .returned (.tuple #[.slice none 0 0, .int .i64 1]) ∧ W = w' from ptall_nil W)
        have HOn := Lib.hid fun W => (show Calls Tryz.prog 12 #[.pointer none, .int .i64 1] W fun e w' => e = .returned (.tuple #[.pointer none, .int .i64 1]) ∧ W = w' from popen_nil 1 W)
        have HWd := Lib.hid fun W (hd : DS At w gd D2 (ownL (.slice (some ⟨g, 0, none⟩) M.length c1)) W) (hr : EntRow W w.heap.size (.slice (some ⟨g, 0, none⟩) M.length c1) M) => (show Calls Tryz.prog 10 #[ptr gd, .int .i64 1, (.slice (some ⟨g, 0, none⟩) M.length c1), .float .f64 4607182418800017408] W fun e w' => e = .returned (.int .i64 61) ∧ Below W.heap.size W w' from pwrite_up nap (ptr gd) 61 (by decide) 1 (by decide) (.slice (some ⟨g, 0, none⟩) M.length c1) M hr.in_ (by omega) HX.out.1 4607182418800017408 (pt_full (n := 1) (by decide)) HX.out.2.1 (fun W' hb => by
          have h := ptup_run api (hd.below api hb) hwf
          rw [if_pos hdn] at h
          exact h))
        have HWn := Lib.hid fun W (hr : EntRow W w.heap.size (.slice (some ⟨g, 0, none⟩) M.length c1) M) => (show Calls Tryz.prog 10 #[.pointer none, .int .i64 1, (.slice (some ⟨g, 0, none⟩) M.length c1), .float .f64 4607182418800017408] W fun e w' => e = .returned (.int .i64 1) ∧ Below W.heap.size W w' from pwrite_up nap (.pointer none) 1 (by decide) 1 (by decide) (.slice (some ⟨g, 0, none⟩) M.length c1) M hr.in_ (by omega) HX.out.1 4607182418800017408 (pt_full (n := 1) (by decide)) HX.out.2.1 (fun W' hb => up_nil2 W'))
        have HDn := Lib.hid fun W => (show Calls Tryz.prog 29 #[.pointer none, .int .i64 1] W fun e w' => e = .returned (.int .i64 1) ∧ Below W.heap.size W w' from pdrop_nil nap 1 (by decide) W)
        have HLn := Lib.hid fun W => ptlen_nil W
        have HMy := Lib.hid fun W => (show Calls Tryz.prog 33 #[.pointer none, .int .u64 0] W fun e w' => e = .returned (.bool false) ∧ W = w' from ptmay_nil 0 W)
        have H11 := Lib.hid (And.intro d11 (k11.row H10.out (fun b hb => hb)))
        clear d11 k11 H10 HCr hdn hwf
        go_wp2_with fail
        refine HOp.out.mono ?_
        rintro e w' ⟨rfl, rfl⟩
        go_wp2_with fail
        refine HRg.out.mono ?_
        rintro e w' ⟨rfl, rfl⟩
        go_wp2_with fail
        refine HLa.out.mono ?_
        rintro e w12 ⟨rfl, b12⟩
        have H12 := Lib.hid (And.intro (H11.out.1.below api b12) (EntRow.below H11.out.2 b12 (Nat.le_refl _)))
        clear b12 H11 HOp HRg HLa
        go_wp2_with fail
        refine (HAl.out _).mono ?_
        rintro e w13 ⟨rfl, hw13⟩
        have b13 : Below w12.heap.size w12 w13 := by rw [← hw13]; exact (Below.refl _ _).alloc (Nat.le_refl _) _
        have H13 := Lib.hid (And.intro (H12.out.1.below api b13) (EntRow.below H12.out.2 b13 (Nat.le_refl _)))
        clear b13 hw13 H12 HAl
        go_wp2_with fail
        refine (HOn.out _).mono ?_
        rintro e w' ⟨rfl, rfl⟩
        have HWd2 := Lib.hid (HWd.out _ H13.out.1 H13.out.2)
        clear HWd
        go_wp2_with fail
        refine HWd2.out.mono ?_
        rintro e w14 ⟨rfl, b14⟩
        have H14 := Lib.hid (And.intro (bj H13.out.1.kept b14) (EntRow.below H13.out.2 b14 (Nat.le_refl _)))
        clear b14 H13 HWd2
        have HWn2 := Lib.hid (HWn.out _ H14.out.2)
        clear HWn
        go_wp2_with fail
        refine HWn2.out.mono ?_
        rintro e w15 ⟨rfl, b15⟩
        have H15 := Lib.hid (bj H14.out.1 b15)
        clear b15 H14 HWn2
        go_wp2_with fail
        refine (HDn.out _).mono ?_
        rintro e w16 ⟨rfl, b16⟩
        have H16 := Lib.hid (bj H15.out b16)
        clear b16 H15 HDn
        go_wp2_with fail
        refine (HLn.out _).mono ?_
        rintro e w' ⟨rfl, rfl⟩
        go_wp2_with fail
        refine (HMy.out _).mono ?_
        rintro e w' ⟨rfl, rfl⟩
        go_wp2_with fail
        refine (HSml.out _).mono ?_
        rintro e w17 ⟨rfl, b17⟩
        have H17 := Lib.hid (bj H16.out b17)
        clear b17
        go_wp2
        go_ret
        exact ⟨rfl, H17.out⟩
      · obtain ⟨n1, n2⟩ := nm_full (c := 116) (n := n) hn
        have HNt := Lib.hid fun W => nap.table n W HX.out.2.2
        generalize nmS 116 n = nm at *
        have H4 := Lib.hid (And.intro d4 r4)
        clear hn d4 r4
        go_wp2_with fail
        refine (HNt.out _).mono ?_
        rintro e w7 ⟨rfl, b7⟩
        have d7 := H4.out.1.below api b7
        have r7 := EntRow.below H4.out.2 b7 (Nat.le_refl _)
        clear b7 H4 HNt
        have HD1 := Lib.hid (d7.drop1 api nap HRf.out)
        have H7 := Lib.hid r7
        clear d7 r7
        go_wp2_with fail
        refine HD1.out.mono ?_
        rintro e w8 ⟨rfl, d8, k8⟩
        have HNa2 := Lib.hid (d8.names api HRf.out.up0 HRf.out.none)
        have H8 := Lib.hid (k8.row H7.out (fun b hb => hb))
        clear d8 k8 H7 HD1
        go_wp2_with fail
        refine HNa2.out.mono ?_
        rintro e w9 ⟨A9, c9, rfl, d9, k9⟩
        have HD2 := Lib.hid (d9.drop2 api nap HRf.out)
        have H9 := Lib.hid (k9.row H8.out (fun b hb => hb))
        clear d9 k9 H8 HNa2
        go_wp2_with fail
        refine HD2.out.mono ?_
        rintro e w10 ⟨rfl, d10, k10⟩
        have HCr := Lib.hid (d10.crash0 api HRf.out.up0)
        have H10 := Lib.hid (k10.row H9.out (fun b hb => hb))
        clear d10 k10 H9 HD2
        go_wp2_with fail
        refine HCr.out.mono ?_
        rintro e w11 ⟨D2, rfl, hdn, hwf, d11, k11⟩
        have HOp := Lib.hid (show Calls Tryz.prog 12 #[ptr gd, .int .i64 1] w11 fun e w' => e = .returned (.tuple #[.pointer none, .int .i64 61]) ∧ w11 = w' from popen_down api d11 hwf 1 hdn)
        have HRg := Lib.hid (show Calls Tryz.prog 31 #[.pointer none, .int .u64 1, .int .i64 0, .int .i64 9] w11 fun e w' => e = .returned (.tuple #[.slice none 0 0, .int .i64 1]) ∧ w11 = w' from ptrange_nil 1 0 9 9 w11 (by decide))
        have HLa := Lib.hid (show Calls Tryz.prog 32 #[.pointer none, .int .u64 1, .int .i64 9] w11 fun e w' => e = .returned (.tuple #[.agg #[.int .u64 0, .int .i64 0, .int .i64 0], .bool false, .int .i64 1]) ∧ Below w11.heap.size w11 w' from ptlast_nil 1 9 9 w11 (by decide))
        have HAl := Lib.hid fun W => (show Calls Tryz.prog 15 #[.pointer none] W fun e w' => e = .returned (.tuple #[.slice none 0 0, .int .i64 1]) ∧ W = w' from ptall_nil W)
        have HOn := Lib.hid fun W => (show Calls Tryz.prog 12 #[.pointer none, .int .i64 1] W fun e w' => e = .returned (.tuple #[.pointer none, .int .i64 1]) ∧ W = w' from popen_nil 1 W)
        have HWd := Lib.hid fun W (hd : DS At w gd D2 (ownL (.slice (some ⟨g, 0, none⟩) M.length c1)) W) (hr : EntRow W w.heap.size (.slice (some ⟨g, 0, none⟩) M.length c1) M) => (show Calls Tryz.prog 10 #[ptr gd, .int .i64 1, (.slice (some ⟨g, 0, none⟩) M.length c1), .float .f64 4607182418800017408] W fun e w' => e = .returned (.int .i64 61) ∧ Below W.heap.size W w' from pwrite_up nap (ptr gd) 61 (by decide) 1 (by decide) (.slice (some ⟨g, 0, none⟩) M.length c1) M hr.in_ (by omega) HX.out.1 4607182418800017408 (pt_full (n := 1) (by decide)) HX.out.2.1 (fun W' hb => by
          have h := ptup_run api (hd.below api hb) hwf
          rw [if_pos hdn] at h
          exact h))
        have HWn := Lib.hid fun W (hr : EntRow W w.heap.size (.slice (some ⟨g, 0, none⟩) M.length c1) M) => (show Calls Tryz.prog 10 #[.pointer none, .int .i64 1, (.slice (some ⟨g, 0, none⟩) M.length c1), .float .f64 4607182418800017408] W fun e w' => e = .returned (.int .i64 1) ∧ Below W.heap.size W w' from pwrite_up nap (.pointer none) 1 (by decide) 1 (by decide) (.slice (some ⟨g, 0, none⟩) M.length c1) M hr.in_ (by omega) HX.out.1 4607182418800017408 (pt_full (n := 1) (by decide)) HX.out.2.1 (fun W' hb => up_nil2 W'))
        have HDn := Lib.hid fun W => (show Calls Tryz.prog 29 #[.pointer none, .int .i64 1] W fun e w' => e = .returned (.int .i64 1) ∧ Below W.heap.size W w' from pdrop_nil nap 1 (by decide) W)
        have HLn := Lib.hid fun W => ptlen_nil W
        have HMy := Lib.hid fun W => (show Calls Tryz.prog 33 #[.pointer none, .int .u64 0] W fun e w' => e = .returned (.bool false) ∧ W = w' from ptmay_nil 0 W)
        have H11 := Lib.hid (And.intro d11 (k11.row H10.out (fun b hb => hb)))
        clear d11 k11 H10 HCr hdn hwf
        go_wp2_with fail
        refine HOp.out.mono ?_
        rintro e w' ⟨rfl, rfl⟩
        go_wp2_with fail
        refine HRg.out.mono ?_
        rintro e w' ⟨rfl, rfl⟩
        go_wp2_with fail
        refine HLa.out.mono ?_
        rintro e w12 ⟨rfl, b12⟩
        have H12 := Lib.hid (And.intro (H11.out.1.below api b12) (EntRow.below H11.out.2 b12 (Nat.le_refl _)))
        clear b12 H11 HOp HRg HLa
        go_wp2_with fail
        refine (HAl.out _).mono ?_
        rintro e w13 ⟨rfl, hw13⟩
        have b13 : Below w12.heap.size w12 w13 := by rw [← hw13]; exact (Below.refl _ _).alloc (Nat.le_refl _) _
        have H13 := Lib.hid (And.intro (H12.out.1.below api b13) (EntRow.below H12.out.2 b13 (Nat.le_refl _)))
        clear b13 hw13 H12 HAl
        go_wp2_with fail
        refine (HOn.out _).mono ?_
        rintro e w' ⟨rfl, rfl⟩
        have HWd2 := Lib.hid (HWd.out _ H13.out.1 H13.out.2)
        clear HWd
        go_wp2_with fail
        refine HWd2.out.mono ?_
        rintro e w14 ⟨rfl, b14⟩
        have H14 := Lib.hid (And.intro (bj H13.out.1.kept b14) (EntRow.below H13.out.2 b14 (Nat.le_refl _)))
        clear b14 H13 HWd2
        have HWn2 := Lib.hid (HWn.out _ H14.out.2)
        clear HWn
        go_wp2_with fail
        refine HWn2.out.mono ?_
        rintro e w15 ⟨rfl, b15⟩
        have H15 := Lib.hid (bj H14.out.1 b15)
        clear b15 H14 HWn2
        go_wp2_with fail
        refine (HDn.out _).mono ?_
        rintro e w16 ⟨rfl, b16⟩
        have H16 := Lib.hid (bj H15.out b16)
        clear b16 H15 HDn
        go_wp2_with fail
        refine (HLn.out _).mono ?_
        rintro e w' ⟨rfl, rfl⟩
        go_wp2_with fail
        refine (HMy.out _).mono ?_
        rintro e w' ⟨rfl, rfl⟩
        go_wp2_with fail
        refine (HSml.out _).mono ?_
        rintro e w17 ⟨rfl, b17⟩
        have H17 := Lib.hid (bj H16.out b17)
        clear b17
        go_wp2
        go_ret
        exact ⟨rfl, H17.out⟩
  · have s2 : decide ((1 : Int) < (M.length : Int)) = false := decide_eq_false (by omega)
    have HB := Lib.hid (HW12.out _ H2.out)
    clear HW12 H2 HBad
    go_wp2_with fail
    refine HB.out.mono ?_
    clear HB
    rintro e w3 (⟨rfl, D', E0, rf, d3, r3⟩ | ⟨rfl, D', E0, n0, rf, d3, r3⟩)
    · have HF := Lib.hid (d3.free6 api rf)
      have H4 := Lib.hid (And.intro rf r3)
      clear rf d3 r3
      go_wp2_with fail
      refine HF.out.mono ?_
      rintro e w4 ⟨f, sf, rfl, d4, k4⟩
      have r4 := k4.row H4.out.2 (fun b hb => hb)
      have HRf := Lib.hid H4.out.1
      clear k4 HF H4
      by_cases hn : ptT n = ByteArray.empty
      · have HNt : Hid (∀ W, Calls Tryz.prog 23 #[.int .i64 n] W fun e w' => e = .returned (.string ByteArray.empty) ∧ Below W.heap.size W w') := Lib.hid fun W => by
          have h := nap.table n W HX.out.2.2
          rw [show nmS 116 n = ByteArray.empty from hn] at h
          exact h
        have HB := Lib.hid fun W (hW : EntRow W w.heap.size (.slice A1 M.length c1) M) => (show Calls Tryz.prog 10 #[ptr gd, .int .i64 n, (.slice A1 M.length c1), .float .f64 4607182418800017408] W fun e w' => e = .returned (.int .i64 2) ∧ Below W.heap.size W w' from pwrite_bad nap (ptr gd) n HX.out.2.2 (.slice A1 M.length c1) M hW.in_ (by omega) HX.out.1 4607182418800017408 (Or.inl hn))
        have H4 := Lib.hid (And.intro d4 r4)
        clear hn d4 r4
        go_wp2_with fail
        refine (HNt.out _).mono ?_
        rintro e w5 ⟨rfl, b5⟩
        have d5 := H4.out.1.below api b5
        have r5 := EntRow.below H4.out.2 b5 (Nat.le_refl _)
        have HB2 := Lib.hid (HB.out _ r5)
        have H5 := Lib.hid (And.intro d5 r5)
        clear d5 r5 b5 HB H4 HNt
        go_wp2_with fail
        refine HB2.out.mono ?_
        rintro e w7 ⟨rfl, b7⟩
        have d7 := H5.out.1.below api b7
        have r7 := EntRow.below H5.out.2 b7 (Nat.le_refl _)
        clear b7 HB2 H5
        have HD1 := Lib.hid (d7.drop1 api nap HRf.out)
        have H7 := Lib.hid r7
        clear d7 r7
        go_wp2_with fail
        refine HD1.out.mono ?_
        rintro e w8 ⟨rfl, d8, k8⟩
        have HNa2 := Lib.hid (d8.names api HRf.out.up0 HRf.out.none)
        have H8 := Lib.hid (k8.row H7.out (fun b hb => hb))
        clear d8 k8 H7 HD1
        go_wp2_with fail
        refine HNa2.out.mono ?_
        rintro e w9 ⟨A9, c9, rfl, d9, k9⟩
        have HD2 := Lib.hid (d9.drop2 api nap HRf.out)
        have H9 := Lib.hid (k9.row H8.out (fun b hb => hb))
        clear d9 k9 H8 HNa2
        go_wp2_with fail
        refine HD2.out.mono ?_
        rintro e w10 ⟨rfl, d10, k10⟩
        have HCr := Lib.hid (d10.crash0 api HRf.out.up0)
        have H10 := Lib.hid (k10.row H9.out (fun b hb => hb))
        clear d10 k10 H9 HD2
        go_wp2_with fail
        refine HCr.out.mono ?_
        rintro e w11 ⟨D2, rfl, hdn, hwf, d11, k11⟩
        have HOp := Lib.hid (show Calls Tryz.prog 12 #[ptr gd, .int .i64 1] w11 fun e w' => e = .returned (.tuple #[.pointer none, .int .i64 61]) ∧ w11 = w' from popen_down api d11 hwf 1 hdn)
        have HRg := Lib.hid (show Calls Tryz.prog 31 #[.pointer none, .int .u64 1, .int .i64 0, .int .i64 9] w11 fun e w' => e = .returned (.tuple #[.slice none 0 0, .int .i64 1]) ∧ w11 = w' from ptrange_nil 1 0 9 9 w11 (by decide))
        have HLa := Lib.hid (show Calls Tryz.prog 32 #[.pointer none, .int .u64 1, .int .i64 9] w11 fun e w' => e = .returned (.tuple #[.agg #[.int .u64 0, .int .i64 0, .int .i64 0], .bool false, .int .i64 1]) ∧ Below w11.heap.size w11 w' from ptlast_nil 1 9 9 w11 (by decide))
        have HAl := Lib.hid fun W => (show Calls Tryz.prog 15 #[.pointer none] W fun e w' => e = .returned (.tuple #[.slice none 0 0, .int .i64 1]) ∧ W = w' from ptall_nil W)
        have HOn := Lib.hid fun W => (show Calls Tryz.prog 12 #[.pointer none, .int .i64 1] W fun e w' => e = .returned (.tuple #[.pointer none, .int .i64 1]) ∧ W = w' from popen_nil 1 W)
        have HWd := Lib.hid fun W (hd : DS At w gd D2 (ownL (.slice A1 M.length c1)) W) (hr : EntRow W w.heap.size (.slice A1 M.length c1) M) => (show Calls Tryz.prog 10 #[ptr gd, .int .i64 1, (.slice A1 M.length c1), .float .f64 4607182418800017408] W fun e w' => e = .returned (.int .i64 61) ∧ Below W.heap.size W w' from pwrite_up nap (ptr gd) 61 (by decide) 1 (by decide) (.slice A1 M.length c1) M hr.in_ (by omega) HX.out.1 4607182418800017408 (pt_full (n := 1) (by decide)) HX.out.2.1 (fun W' hb => by
          have h := ptup_run api (hd.below api hb) hwf
          rw [if_pos hdn] at h
          exact h))
        have HWn := Lib.hid fun W (hr : EntRow W w.heap.size (.slice A1 M.length c1) M) => (show Calls Tryz.prog 10 #[.pointer none, .int .i64 1, (.slice A1 M.length c1), .float .f64 4607182418800017408] W fun e w' => e = .returned (.int .i64 1) ∧ Below W.heap.size W w' from pwrite_up nap (.pointer none) 1 (by decide) 1 (by decide) (.slice A1 M.length c1) M hr.in_ (by omega) HX.out.1 4607182418800017408 (pt_full (n := 1) (by decide)) HX.out.2.1 (fun W' hb => up_nil2 W'))
        have HDn := Lib.hid fun W => (show Calls Tryz.prog 29 #[.pointer none, .int .i64 1] W fun e w' => e = .returned (.int .i64 1) ∧ Below W.heap.size W w' from pdrop_nil nap 1 (by decide) W)
        have HLn := Lib.hid fun W => ptlen_nil W
        have HMy := Lib.hid fun W => (show Calls Tryz.prog 33 #[.pointer none, .int .u64 0] W fun e w' => e = .returned (.bool false) ∧ W = w' from ptmay_nil 0 W)
        have H11 := Lib.hid (And.intro d11 (k11.row H10.out (fun b hb => hb)))
        clear d11 k11 H10 HCr hdn hwf
        go_wp2_with fail
        refine HOp.out.mono ?_
        rintro e w' ⟨rfl, rfl⟩
        go_wp2_with fail
        refine HRg.out.mono ?_
        rintro e w' ⟨rfl, rfl⟩
        go_wp2_with fail
        refine HLa.out.mono ?_
        rintro e w12 ⟨rfl, b12⟩
        have H12 := Lib.hid (And.intro (H11.out.1.below api b12) (EntRow.below H11.out.2 b12 (Nat.le_refl _)))
        clear b12 H11 HOp HRg HLa
        go_wp2_with fail
        refine (HAl.out _).mono ?_
        rintro e w13 ⟨rfl, hw13⟩
        have b13 : Below w12.heap.size w12 w13 := by rw [← hw13]; exact (Below.refl _ _).alloc (Nat.le_refl _) _
        have H13 := Lib.hid (And.intro (H12.out.1.below api b13) (EntRow.below H12.out.2 b13 (Nat.le_refl _)))
        clear b13 hw13 H12 HAl
        go_wp2_with fail
        refine (HOn.out _).mono ?_
        rintro e w' ⟨rfl, rfl⟩
        have HWd2 := Lib.hid (HWd.out _ H13.out.1 H13.out.2)
        clear HWd
        go_wp2_with fail
        refine HWd2.out.mono ?_
        rintro e w14 ⟨rfl, b14⟩
        have H14 := Lib.hid (And.intro (bj H13.out.1.kept b14) (EntRow.below H13.out.2 b14 (Nat.le_refl _)))
        clear b14 H13 HWd2
        have HWn2 := Lib.hid (HWn.out _ H14.out.2)
        clear HWn
        go_wp2_with fail
        refine HWn2.out.mono ?_
        rintro e w15 ⟨rfl, b15⟩
        have H15 := Lib.hid (bj H14.out.1 b15)
        clear b15 H14 HWn2
        go_wp2_with fail
        refine (HDn.out _).mono ?_
        rintro e w16 ⟨rfl, b16⟩
        have H16 := Lib.hid (bj H15.out b16)
        clear b16 H15 HDn
        go_wp2_with fail
        refine (HLn.out _).mono ?_
        rintro e w' ⟨rfl, rfl⟩
        go_wp2_with fail
        refine (HMy.out _).mono ?_
        rintro e w' ⟨rfl, rfl⟩
        go_wp2_with fail
        refine (HSml.out _).mono ?_
        rintro e w17 ⟨rfl, b17⟩
        have H17 := Lib.hid (bj H16.out b17)
        clear b17
        go_wp2
        go_ret
        exact ⟨rfl, H17.out⟩
      · obtain ⟨n1, n2⟩ := nm_full (c := 116) (n := n) hn
        have HNt := Lib.hid fun W => nap.table n W HX.out.2.2
        generalize nmS 116 n = nm at *
        have H4 := Lib.hid (And.intro d4 r4)
        clear hn d4 r4
        go_wp2_with fail
        refine (HNt.out _).mono ?_
        rintro e w7 ⟨rfl, b7⟩
        have d7 := H4.out.1.below api b7
        have r7 := EntRow.below H4.out.2 b7 (Nat.le_refl _)
        clear b7 H4 HNt
        have HD1 := Lib.hid (d7.drop1 api nap HRf.out)
        have H7 := Lib.hid r7
        clear d7 r7
        go_wp2_with fail
        refine HD1.out.mono ?_
        rintro e w8 ⟨rfl, d8, k8⟩
        have HNa2 := Lib.hid (d8.names api HRf.out.up0 HRf.out.none)
        have H8 := Lib.hid (k8.row H7.out (fun b hb => hb))
        clear d8 k8 H7 HD1
        go_wp2_with fail
        refine HNa2.out.mono ?_
        rintro e w9 ⟨A9, c9, rfl, d9, k9⟩
        have HD2 := Lib.hid (d9.drop2 api nap HRf.out)
        have H9 := Lib.hid (k9.row H8.out (fun b hb => hb))
        clear d9 k9 H8 HNa2
        go_wp2_with fail
        refine HD2.out.mono ?_
        rintro e w10 ⟨rfl, d10, k10⟩
        have HCr := Lib.hid (d10.crash0 api HRf.out.up0)
        have H10 := Lib.hid (k10.row H9.out (fun b hb => hb))
        clear d10 k10 H9 HD2
        go_wp2_with fail
        refine HCr.out.mono ?_
        rintro e w11 ⟨D2, rfl, hdn, hwf, d11, k11⟩
        have HOp := Lib.hid (show Calls Tryz.prog 12 #[ptr gd, .int .i64 1] w11 fun e w' => e = .returned (.tuple #[.pointer none, .int .i64 61]) ∧ w11 = w' from popen_down api d11 hwf 1 hdn)
        have HRg := Lib.hid (show Calls Tryz.prog 31 #[.pointer none, .int .u64 1, .int .i64 0, .int .i64 9] w11 fun e w' => e = .returned (.tuple #[.slice none 0 0, .int .i64 1]) ∧ w11 = w' from ptrange_nil 1 0 9 9 w11 (by decide))
        have HLa := Lib.hid (show Calls Tryz.prog 32 #[.pointer none, .int .u64 1, .int .i64 9] w11 fun e w' => e = .returned (.tuple #[.agg #[.int .u64 0, .int .i64 0, .int .i64 0], .bool false, .int .i64 1]) ∧ Below w11.heap.size w11 w' from ptlast_nil 1 9 9 w11 (by decide))
        have HAl := Lib.hid fun W => (show Calls Tryz.prog 15 #[.pointer none] W fun e w' => e = .returned (.tuple #[.slice none 0 0, .int .i64 1]) ∧ W = w' from ptall_nil W)
        have HOn := Lib.hid fun W => (show Calls Tryz.prog 12 #[.pointer none, .int .i64 1] W fun e w' => e = .returned (.tuple #[.pointer none, .int .i64 1]) ∧ W = w' from popen_nil 1 W)
        have HWd := Lib.hid fun W (hd : DS At w gd D2 (ownL (.slice A1 M.length c1)) W) (hr : EntRow W w.heap.size (.slice A1 M.length c1) M) => (show Calls Tryz.prog 10 #[ptr gd, .int .i64 1, (.slice A1 M.length c1), .float .f64 4607182418800017408] W fun e w' => e = .returned (.int .i64 61) ∧ Below W.heap.size W w' from pwrite_up nap (ptr gd) 61 (by decide) 1 (by decide) (.slice A1 M.length c1) M hr.in_ (by omega) HX.out.1 4607182418800017408 (pt_full (n := 1) (by decide)) HX.out.2.1 (fun W' hb => by
          have h := ptup_run api (hd.below api hb) hwf
          rw [if_pos hdn] at h
          exact h))
        have HWn := Lib.hid fun W (hr : EntRow W w.heap.size (.slice A1 M.length c1) M) => (show Calls Tryz.prog 10 #[.pointer none, .int .i64 1, (.slice A1 M.length c1), .float .f64 4607182418800017408] W fun e w' => e = .returned (.int .i64 1) ∧ Below W.heap.size W w' from pwrite_up nap (.pointer none) 1 (by decide) 1 (by decide) (.slice A1 M.length c1) M hr.in_ (by omega) HX.out.1 4607182418800017408 (pt_full (n := 1) (by decide)) HX.out.2.1 (fun W' hb => up_nil2 W'))
        have HDn := Lib.hid fun W => (show Calls Tryz.prog 29 #[.pointer none, .int .i64 1] W fun e w' => e = .returned (.int .i64 1) ∧ Below W.heap.size W w' from pdrop_nil nap 1 (by decide) W)
        have HLn := Lib.hid fun W => ptlen_nil W
        have HMy := Lib.hid fun W => (show Calls Tryz.prog 33 #[.pointer none, .int .u64 0] W fun e w' => e = .returned (.bool false) ∧ W = w' from ptmay_nil 0 W)
        have H11 := Lib.hid (And.intro d11 (k11.row H10.out (fun b hb => hb)))
        clear d11 k11 H10 HCr hdn hwf
        go_wp2_with fail
        refine HOp.out.mono ?_
        rintro e w' ⟨rfl, rfl⟩
        go_wp2_with fail
        refine HRg.out.mono ?_
        rintro e w' ⟨rfl, rfl⟩
        go_wp2_with fail
        refine HLa.out.mono ?_
        rintro e w12 ⟨rfl, b12⟩
        have H12 := Lib.hid (And.intro (H11.out.1.below api b12) (EntRow.below H11.out.2 b12 (Nat.le_refl _)))
        clear b12 H11 HOp HRg HLa
        go_wp2_with fail
        refine (HAl.out _).mono ?_
        rintro e w13 ⟨rfl, hw13⟩
        have b13 : Below w12.heap.size w12 w13 := by rw [← hw13]; exact (Below.refl _ _).alloc (Nat.le_refl _) _
        have H13 := Lib.hid (And.intro (H12.out.1.below api b13) (EntRow.below H12.out.2 b13 (Nat.le_refl _)))
        clear b13 hw13 H12 HAl
        go_wp2_with fail
        refine (HOn.out _).mono ?_
        rintro e w' ⟨rfl, rfl⟩
        have HWd2 := Lib.hid (HWd.out _ H13.out.1 H13.out.2)
        clear HWd
        go_wp2_with fail
        refine HWd2.out.mono ?_
        rintro e w14 ⟨rfl, b14⟩
        have H14 := Lib.hid (And.intro (bj H13.out.1.kept b14) (EntRow.below H13.out.2 b14 (Nat.le_refl _)))
        clear b14 H13 HWd2
        have HWn2 := Lib.hid (HWn.out _ H14.out.2)
        clear HWn
        go_wp2_with fail
        refine HWn2.out.mono ?_
        rintro e w15 ⟨rfl, b15⟩
        have H15 := Lib.hid (bj H14.out.1 b15)
        clear b15 H14 HWn2
        go_wp2_with fail
        refine (HDn.out _).mono ?_
        rintro e w16 ⟨rfl, b16⟩
        have H16 := Lib.hid (bj H15.out b16)
        clear b16 H15 HDn
        go_wp2_with fail
        refine (HLn.out _).mono ?_
        rintro e w' ⟨rfl, rfl⟩
        go_wp2_with fail
        refine (HMy.out _).mono ?_
        rintro e w' ⟨rfl, rfl⟩
        go_wp2_with fail
        refine (HSml.out _).mono ?_
        rintro e w17 ⟨rfl, b17⟩
        have H17 := Lib.hid (bj H16.out b17)
        clear b17
        go_wp2
        go_ret
        exact ⟨rfl, H17.out⟩
    · have HNa := Lib.hid (d3.names api rf.up n0)
      have H4 := Lib.hid (And.intro rf r3)
      clear rf d3 r3 n0
      go_wp2_with fail
      refine HNa.out.mono ?_
      rintro e w3' ⟨A3, c3, rfl, d3, k3⟩
      have HF := Lib.hid (d3.free6 api H4.out.1)
      have H5 := Lib.hid (k3.row H4.out.2 (fun b hb => hb))
      clear d3 k3 HNa
      go_wp2_with fail
      refine HF.out.mono ?_
      rintro e w4 ⟨f, sf, rfl, d4, k4⟩
      have r4 := k4.row H5.out (fun b hb => hb)
      have HRf := Lib.hid H4.out.1
      clear k4 HF H4 H5
      by_cases hn : ptT n = ByteArray.empty
      · have HNt : Hid (∀ W, Calls Tryz.prog 23 #[.int .i64 n] W fun e w' => e = .returned (.string ByteArray.empty) ∧ Below W.heap.size W w') := Lib.hid fun W => by
          have h := nap.table n W HX.out.2.2
          rw [show nmS 116 n = ByteArray.empty from hn] at h
          exact h
        have HB := Lib.hid fun W (hW : EntRow W w.heap.size (.slice A1 M.length c1) M) => (show Calls Tryz.prog 10 #[ptr gd, .int .i64 n, (.slice A1 M.length c1), .float .f64 4607182418800017408] W fun e w' => e = .returned (.int .i64 2) ∧ Below W.heap.size W w' from pwrite_bad nap (ptr gd) n HX.out.2.2 (.slice A1 M.length c1) M hW.in_ (by omega) HX.out.1 4607182418800017408 (Or.inl hn))
        have H4 := Lib.hid (And.intro d4 r4)
        clear hn d4 r4
        go_wp2_with fail
        refine (HNt.out _).mono ?_
        rintro e w5 ⟨rfl, b5⟩
        have d5 := H4.out.1.below api b5
        have r5 := EntRow.below H4.out.2 b5 (Nat.le_refl _)
        have HB2 := Lib.hid (HB.out _ r5)
        have H5 := Lib.hid (And.intro d5 r5)
        clear d5 r5 b5 HB H4 HNt
        go_wp2_with fail
        refine HB2.out.mono ?_
        rintro e w7 ⟨rfl, b7⟩
        have d7 := H5.out.1.below api b7
        have r7 := EntRow.below H5.out.2 b7 (Nat.le_refl _)
        clear b7 HB2 H5
        have HD1 := Lib.hid (d7.drop1 api nap HRf.out)
        have H7 := Lib.hid r7
        clear d7 r7
        go_wp2_with fail
        refine HD1.out.mono ?_
        rintro e w8 ⟨rfl, d8, k8⟩
        have HNa2 := Lib.hid (d8.names api HRf.out.up0 HRf.out.none)
        have H8 := Lib.hid (k8.row H7.out (fun b hb => hb))
        clear d8 k8 H7 HD1
        go_wp2_with fail
        refine HNa2.out.mono ?_
        rintro e w9 ⟨A9, c9, rfl, d9, k9⟩
        have HD2 := Lib.hid (d9.drop2 api nap HRf.out)
        have H9 := Lib.hid (k9.row H8.out (fun b hb => hb))
        clear d9 k9 H8 HNa2
        go_wp2_with fail
        refine HD2.out.mono ?_
        rintro e w10 ⟨rfl, d10, k10⟩
        have HCr := Lib.hid (d10.crash0 api HRf.out.up0)
        have H10 := Lib.hid (k10.row H9.out (fun b hb => hb))
        clear d10 k10 H9 HD2
        go_wp2_with fail
        refine HCr.out.mono ?_
        rintro e w11 ⟨D2, rfl, hdn, hwf, d11, k11⟩
        have HOp := Lib.hid (show Calls Tryz.prog 12 #[ptr gd, .int .i64 1] w11 fun e w' => e = .returned (.tuple #[.pointer none, .int .i64 61]) ∧ w11 = w' from popen_down api d11 hwf 1 hdn)
        have HRg := Lib.hid (show Calls Tryz.prog 31 #[.pointer none, .int .u64 1, .int .i64 0, .int .i64 9] w11 fun e w' => e = .returned (.tuple #[.slice none 0 0, .int .i64 1]) ∧ w11 = w' from ptrange_nil 1 0 9 9 w11 (by decide))
        have HLa := Lib.hid (show Calls Tryz.prog 32 #[.pointer none, .int .u64 1, .int .i64 9] w11 fun e w' => e = .returned (.tuple #[.agg #[.int .u64 0, .int .i64 0, .int .i64 0], .bool false, .int .i64 1]) ∧ Below w11.heap.size w11 w' from ptlast_nil 1 9 9 w11 (by decide))
        have HAl := Lib.hid fun W => (show Calls Tryz.prog 15 #[.pointer none] W fun e w' => e = .returned (.tuple #[.slice none 0 0, .int .i64 1]) ∧ W = w' from ptall_nil W)
        have HOn := Lib.hid fun W => (show Calls Tryz.prog 12 #[.pointer none, .int .i64 1] W fun e w' => e = .returned (.tuple #[.pointer none, .int .i64 1]) ∧ W = w' from popen_nil 1 W)
        have HWd := Lib.hid fun W (hd : DS At w gd D2 (ownL (.slice A1 M.length c1)) W) (hr : EntRow W w.heap.size (.slice A1 M.length c1) M) => (show Calls Tryz.prog 10 #[ptr gd, .int .i64 1, (.slice A1 M.length c1), .float .f64 4607182418800017408] W fun e w' => e = .returned (.int .i64 61) ∧ Below W.heap.size W w' from pwrite_up nap (ptr gd) 61 (by decide) 1 (by decide) (.slice A1 M.length c1) M hr.in_ (by omega) HX.out.1 4607182418800017408 (pt_full (n := 1) (by decide)) HX.out.2.1 (fun W' hb => by
          have h := ptup_run api (hd.below api hb) hwf
          rw [if_pos hdn] at h
          exact h))
        have HWn := Lib.hid fun W (hr : EntRow W w.heap.size (.slice A1 M.length c1) M) => (show Calls Tryz.prog 10 #[.pointer none, .int .i64 1, (.slice A1 M.length c1), .float .f64 4607182418800017408] W fun e w' => e = .returned (.int .i64 1) ∧ Below W.heap.size W w' from pwrite_up nap (.pointer none) 1 (by decide) 1 (by decide) (.slice A1 M.length c1) M hr.in_ (by omega) HX.out.1 4607182418800017408 (pt_full (n := 1) (by decide)) HX.out.2.1 (fun W' hb => up_nil2 W'))
        have HDn := Lib.hid fun W => (show Calls Tryz.prog 29 #[.pointer none, .int .i64 1] W fun e w' => e = .returned (.int .i64 1) ∧ Below W.heap.size W w' from pdrop_nil nap 1 (by decide) W)
        have HLn := Lib.hid fun W => ptlen_nil W
        have HMy := Lib.hid fun W => (show Calls Tryz.prog 33 #[.pointer none, .int .u64 0] W fun e w' => e = .returned (.bool false) ∧ W = w' from ptmay_nil 0 W)
        have H11 := Lib.hid (And.intro d11 (k11.row H10.out (fun b hb => hb)))
        clear d11 k11 H10 HCr hdn hwf
        go_wp2_with fail
        refine HOp.out.mono ?_
        rintro e w' ⟨rfl, rfl⟩
        go_wp2_with fail
        refine HRg.out.mono ?_
        rintro e w' ⟨rfl, rfl⟩
        go_wp2_with fail
        refine HLa.out.mono ?_
        rintro e w12 ⟨rfl, b12⟩
        have H12 := Lib.hid (And.intro (H11.out.1.below api b12) (EntRow.below H11.out.2 b12 (Nat.le_refl _)))
        clear b12 H11 HOp HRg HLa
        go_wp2_with fail
        refine (HAl.out _).mono ?_
        rintro e w13 ⟨rfl, hw13⟩
        have b13 : Below w12.heap.size w12 w13 := by rw [← hw13]; exact (Below.refl _ _).alloc (Nat.le_refl _) _
        have H13 := Lib.hid (And.intro (H12.out.1.below api b13) (EntRow.below H12.out.2 b13 (Nat.le_refl _)))
        clear b13 hw13 H12 HAl
        go_wp2_with fail
        refine (HOn.out _).mono ?_
        rintro e w' ⟨rfl, rfl⟩
        have HWd2 := Lib.hid (HWd.out _ H13.out.1 H13.out.2)
        clear HWd
        go_wp2_with fail
        refine HWd2.out.mono ?_
        rintro e w14 ⟨rfl, b14⟩
        have H14 := Lib.hid (And.intro (bj H13.out.1.kept b14) (EntRow.below H13.out.2 b14 (Nat.le_refl _)))
        clear b14 H13 HWd2
        have HWn2 := Lib.hid (HWn.out _ H14.out.2)
        clear HWn
        go_wp2_with fail
        refine HWn2.out.mono ?_
        rintro e w15 ⟨rfl, b15⟩
        have H15 := Lib.hid (bj H14.out.1 b15)
        clear b15 H14 HWn2
        go_wp2_with fail
        refine (HDn.out _).mono ?_
        rintro e w16 ⟨rfl, b16⟩
        have H16 := Lib.hid (bj H15.out b16)
        clear b16 H15 HDn
        go_wp2_with fail
        refine (HLn.out _).mono ?_
        rintro e w' ⟨rfl, rfl⟩
        go_wp2_with fail
        refine (HMy.out _).mono ?_
        rintro e w' ⟨rfl, rfl⟩
        go_wp2_with fail
        refine (HSml.out _).mono ?_
        rintro e w17 ⟨rfl, b17⟩
        have H17 := Lib.hid (bj H16.out b17)
        clear b17
        go_wp2
        go_ret
        exact ⟨rfl, H17.out⟩
      · obtain ⟨n1, n2⟩ := nm_full (c := 116) (n := n) hn
        have HNt := Lib.hid fun W => nap.table n W HX.out.2.2
        generalize nmS 116 n = nm at *
        have H4 := Lib.hid (And.intro d4 r4)
        clear hn d4 r4
        go_wp2_with fail
        refine (HNt.out _).mono ?_
        rintro e w7 ⟨rfl, b7⟩
        have d7 := H4.out.1.below api b7
        have r7 := EntRow.below H4.out.2 b7 (Nat.le_refl _)
        clear b7 H4 HNt
        have HD1 := Lib.hid (d7.drop1 api nap HRf.out)
        have H7 := Lib.hid r7
        clear d7 r7
        go_wp2_with fail
        refine HD1.out.mono ?_
        rintro e w8 ⟨rfl, d8, k8⟩
        have HNa2 := Lib.hid (d8.names api HRf.out.up0 HRf.out.none)
        have H8 := Lib.hid (k8.row H7.out (fun b hb => hb))
        clear d8 k8 H7 HD1
        go_wp2_with fail
        refine HNa2.out.mono ?_
        rintro e w9 ⟨A9, c9, rfl, d9, k9⟩
        have HD2 := Lib.hid (d9.drop2 api nap HRf.out)
        have H9 := Lib.hid (k9.row H8.out (fun b hb => hb))
        clear d9 k9 H8 HNa2
        go_wp2_with fail
        refine HD2.out.mono ?_
        rintro e w10 ⟨rfl, d10, k10⟩
        have HCr := Lib.hid (d10.crash0 api HRf.out.up0)
        have H10 := Lib.hid (k10.row H9.out (fun b hb => hb))
        clear d10 k10 H9 HD2
        go_wp2_with fail
        refine HCr.out.mono ?_
        rintro e w11 ⟨D2, rfl, hdn, hwf, d11, k11⟩
        have HOp := Lib.hid (show Calls Tryz.prog 12 #[ptr gd, .int .i64 1] w11 fun e w' => e = .returned (.tuple #[.pointer none, .int .i64 61]) ∧ w11 = w' from popen_down api d11 hwf 1 hdn)
        have HRg := Lib.hid (show Calls Tryz.prog 31 #[.pointer none, .int .u64 1, .int .i64 0, .int .i64 9] w11 fun e w' => e = .returned (.tuple #[.slice none 0 0, .int .i64 1]) ∧ w11 = w' from ptrange_nil 1 0 9 9 w11 (by decide))
        have HLa := Lib.hid (show Calls Tryz.prog 32 #[.pointer none, .int .u64 1, .int .i64 9] w11 fun e w' => e = .returned (.tuple #[.agg #[.int .u64 0, .int .i64 0, .int .i64 0], .bool false, .int .i64 1]) ∧ Below w11.heap.size w11 w' from ptlast_nil 1 9 9 w11 (by decide))
        have HAl := Lib.hid fun W => (show Calls Tryz.prog 15 #[.pointer none] W fun e w' => e = .returned (.tuple #[.slice none 0 0, .int .i64 1]) ∧ W = w' from ptall_nil W)
        have HOn := Lib.hid fun W => (show Calls Tryz.prog 12 #[.pointer none, .int .i64 1] W fun e w' => e = .returned (.tuple #[.pointer none, .int .i64 1]) ∧ W = w' from popen_nil 1 W)
        have HWd := Lib.hid fun W (hd : DS At w gd D2 (ownL (.slice A1 M.length c1)) W) (hr : EntRow W w.heap.size (.slice A1 M.length c1) M) => (show Calls Tryz.prog 10 #[ptr gd, .int .i64 1, (.slice A1 M.length c1), .float .f64 4607182418800017408] W fun e w' => e = .returned (.int .i64 61) ∧ Below W.heap.size W w' from pwrite_up nap (ptr gd) 61 (by decide) 1 (by decide) (.slice A1 M.length c1) M hr.in_ (by omega) HX.out.1 4607182418800017408 (pt_full (n := 1) (by decide)) HX.out.2.1 (fun W' hb => by
          have h := ptup_run api (hd.below api hb) hwf
          rw [if_pos hdn] at h
          exact h))
        have HWn := Lib.hid fun W (hr : EntRow W w.heap.size (.slice A1 M.length c1) M) => (show Calls Tryz.prog 10 #[.pointer none, .int .i64 1, (.slice A1 M.length c1), .float .f64 4607182418800017408] W fun e w' => e = .returned (.int .i64 1) ∧ Below W.heap.size W w' from pwrite_up nap (.pointer none) 1 (by decide) 1 (by decide) (.slice A1 M.length c1) M hr.in_ (by omega) HX.out.1 4607182418800017408 (pt_full (n := 1) (by decide)) HX.out.2.1 (fun W' hb => up_nil2 W'))
        have HDn := Lib.hid fun W => (show Calls Tryz.prog 29 #[.pointer none, .int .i64 1] W fun e w' => e = .returned (.int .i64 1) ∧ Below W.heap.size W w' from pdrop_nil nap 1 (by decide) W)
        have HLn := Lib.hid fun W => ptlen_nil W
        have HMy := Lib.hid fun W => (show Calls Tryz.prog 33 #[.pointer none, .int .u64 0] W fun e w' => e = .returned (.bool false) ∧ W = w' from ptmay_nil 0 W)
        have H11 := Lib.hid (And.intro d11 (k11.row H10.out (fun b hb => hb)))
        clear d11 k11 H10 HCr hdn hwf
        go_wp2_with fail
        refine HOp.out.mono ?_
        rintro e w' ⟨rfl, rfl⟩
        go_wp2_with fail
        refine HRg.out.mono ?_
        rintro e w' ⟨rfl, rfl⟩
        go_wp2_with fail
        refine HLa.out.mono ?_
        rintro e w12 ⟨rfl, b12⟩
        have H12 := Lib.hid (And.intro (H11.out.1.below api b12) (EntRow.below H11.out.2 b12 (Nat.le_refl _)))
        clear b12 H11 HOp HRg HLa
        go_wp2_with fail
        refine (HAl.out _).mono ?_
        rintro e w13 ⟨rfl, hw13⟩
        have b13 : Below w12.heap.size w12 w13 := by rw [← hw13]; exact (Below.refl _ _).alloc (Nat.le_refl _) _
        have H13 := Lib.hid (And.intro (H12.out.1.below api b13) (EntRow.below H12.out.2 b13 (Nat.le_refl _)))
        clear b13 hw13 H12 HAl
        go_wp2_with fail
        refine (HOn.out _).mono ?_
        rintro e w' ⟨rfl, rfl⟩
        have HWd2 := Lib.hid (HWd.out _ H13.out.1 H13.out.2)
        clear HWd
        go_wp2_with fail
        refine HWd2.out.mono ?_
        rintro e w14 ⟨rfl, b14⟩
        have H14 := Lib.hid (And.intro (bj H13.out.1.kept b14) (EntRow.below H13.out.2 b14 (Nat.le_refl _)))
        clear b14 H13 HWd2
        have HWn2 := Lib.hid (HWn.out _ H14.out.2)
        clear HWn
        go_wp2_with fail
        refine HWn2.out.mono ?_
        rintro e w15 ⟨rfl, b15⟩
        have H15 := Lib.hid (bj H14.out.1 b15)
        clear b15 H14 HWn2
        go_wp2_with fail
        refine (HDn.out _).mono ?_
        rintro e w16 ⟨rfl, b16⟩
        have H16 := Lib.hid (bj H15.out b16)
        clear b16 H15 HDn
        go_wp2_with fail
        refine (HLn.out _).mono ?_
        rintro e w' ⟨rfl, rfl⟩
        go_wp2_with fail
        refine (HMy.out _).mono ?_
        rintro e w' ⟨rfl, rfl⟩
        go_wp2_with fail
        refine (HSml.out _).mono ?_
        rintro e w17 ⟨rfl, b17⟩
        have H17 := Lib.hid (bj H16.out b17)
        clear b17
        go_wp2
        go_ret
        exact ⟨rfl, H17.out⟩
end
theorem walk (w : World) (v : Value) (l : List EntS) (room n : Int) (hl : EntsIn w v l) (wl : ∀ x ∈ l, EntOk x) (wr : (Lit.int .u16 room).wf = true) (wn : (Lit.int .i64 n).wf = true) :
    Calls Tryz.prog 6 #[v, .int .u16 room, .int .i64 n] w fun e w' => e = .returned (.bool true) ∧ Below w.heap.size w w' := by
  by_cases h : l.length ≤ 60
  · obtain ⟨r, rfl, hr⟩ := u16_nat wr
    exact short api napi w v l r n hl wl hr wn h
  · exact long api napi w v l room n hl (by omega)
end Go.Proofs.YtmbhafabphogdaaGreat.PtRf

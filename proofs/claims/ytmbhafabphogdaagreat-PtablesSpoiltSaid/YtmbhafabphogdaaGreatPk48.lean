/- PtAnswerWalk, PtFilterWalk, PtSpoiltWalk -/
import Derived.Test.YtmbhafabphogdaaGreatPk47
import Derived.Test.YtmbhafabphogdaaGreatPk45
import Derived.Test.YtmbhafabphogdaaGreatPk25
import Derived.Test.YtmbhafabphogdaaGreatPk28
import Derived.Test.YtmbhafabphogdaaGreatPk04
import Derived.Test.YtmbhafabphogdaaGreatPk43
/- PtAnswerWalk -/
namespace Go.Proofs.YtmbhafabphogdaaGreat.PtAn
open Go.RowKit
set_option linter.unusedVariables false
set_option maxRecDepth 100000

section
variable {At : Lies} (api : DiskApi At) (nap : NamesApi)
include api nap
theorem long (w : World) (v : Value) (l : List EntS) (va : Value) (xs : List AskS) (r : Nat) (hl : EntsIn w v l) (ha : AsksIn w va xs) (h : 80 < l.length ∨ 40 < xs.length) :
    Calls Tryz.prog 3 #[v, va, .float .f64 r] w fun e w' => e = .returned (.bool true) ∧ Below w.heap.size w w' := by
  obtain ⟨A, off, c, rfl, -, -⟩ := hl.form
  obtain ⟨B, d, rfl⟩ := ha.form
  have HE := Lib.hid (small_true api nap w)
  by_cases h1 : 80 < l.length
  · have s1 : decide ((80 : Int) < (l.length : Int)) = true := decide_eq_true (by omega)
    clear h hl ha
    go_enter Tryz.func3, Tryz.ntmps3
    go_wp2_with fail
    refine HE.out.mono ?_
    rintro e w2 ⟨rfl, hb2⟩
    go_wp2
    go_ret
    exact ⟨rfl, hb2⟩
  · have s1 : decide ((80 : Int) < (l.length : Int)) = false := decide_eq_false (by omega)
    have s2 : decide ((40 : Int) < (xs.length : Int)) = true := decide_eq_true (by omega)
    clear h hl ha h1
    go_enter Tryz.func3, Tryz.ntmps3
    go_wp2_with fail
    refine HE.out.mono ?_
    rintro e w2 ⟨rfl, hb2⟩
    go_wp2
    go_ret
    exact ⟨rfl, hb2⟩
set_option maxHeartbeats 4000000 in
theorem short (w : World) (v : Value) (l : List EntS) (va : Value) (xs : List AskS) (r : Nat) (hl : EntsIn w v l) (wl : ∀ x ∈ l, EntOk x) (ha : AsksIn w va xs) (wa : ∀ x ∈ xs, AskOk x) (hr : r < 18446744073709551616) (h1 : l.length ≤ 80) (h2 : xs.length ≤ 40) :
    Calls Tryz.prog 3 #[v, va, .float .f64 r] w fun e w' => e = .returned (.bool true) ∧ Below w.heap.size w w' := by
  have HMd := Lib.hid (made_any v l w hl (by omega))
  have hml := madeE_length l
  obtain ⟨mok, mtb⟩ := madeE_ok l
  obtain ⟨A, off, c, rfl, -, -⟩ := hl.form
  obtain ⟨B, d, rfl⟩ := ha.form
  have s1 : decide ((80 : Int) < (l.length : Int)) = false := decide_eq_false (by omega)
  have s2 : decide ((40 : Int) < (xs.length : Int)) = false := decide_eq_false (by omega)
  have HX := Lib.hid (And.intro ha (And.intro wa (And.intro mok (And.intro mtb hr))))
  have HSml := Lib.hid fun W => small_true api nap W
  generalize madeE l = M at *
  have hM : M.length ≤ 80 := by omega
  clear hl wl ha wa hr mok mtb hml
  generalize hz1 : l.length = z1 at *
  obtain ⟨z2, hz2⟩ : ∃ z2, xs.length = z2 := ⟨_, rfl⟩
  have HZ2 := Lib.hid hz2
  rw [hz2] at s2 h2 ⊢
  clear hz1 hz2 h1
  go_enter Tryz.func3, Tryz.ntmps3
  go_wp2_with fail
  refine HMd.out.mono ?_
  rintro e w1 ⟨A1, c1, rfl, r1, b1⟩
  have hE1 : ∀ b ∈ ownL (.slice A1 M.length c1), b < w1.heap.size := fun b hb => (row_own r1 b hb).2
  have HN : Hid (Calls Tryz.prog 9 #[.int .i64 40000] w1 fun e w' => ∃ gd, e = .returned (.tuple #[ptr gd, .int .i64 0]) ∧ DS At w gd (newS 40000) (ownL (.slice A1 M.length c1)) w' ∧ Kept (ownL (.slice A1 M.length c1)) w1 w') := Lib.hid (ds_new api w w1 _ b1 hE1 40000 (by decide))
  have H1 := Lib.hid r1
  clear r1 b1 hE1 HMd
  go_wp2_with fail
  refine HN.out.mono ?_
  rintro e w2 ⟨gd, rfl, d2, k2⟩
  have r2 := k2.row H1.out (fun b hb => hb)
  have HWr := Lib.hid (pwrite_at api nap (n := 3) (ni := 3) rfl d2 (upd_new (by decide)) (by decide) _ r2.in_ (by omega) HX.out.2.2.1 HX.out.2.2.2.1 r HX.out.2.2.2.2 (by decide) rfl rfl (by show 0 + 28 * M.length + 6268 ≤ 40000; omega))
  have H2 := Lib.hid r2
  clear d2 k2 r2 HN H1
  go_wp2_with fail
  refine HWr.out.mono ?_
  rintro e w3 ⟨t, D1, hw, rfl, d3, k3⟩
  have hc1 : D1.count = 0 := hw.count
  have hcap1 : D1.cap = 40000 := hw.cap
  have hT1 := hw.has (by omega) HX.out.2.2.1 HX.out.2.2.2.1
  have u1 := hw.up
  have HR := Lib.hid (d3.reads api u1)
  have H3 := Lib.hid (And.intro (k3.row H2.out (fun b hb => hb)) (And.intro u1 hT1))
  clear d3 k3 hw hT1 u1 HWr H2
  go_wp2_with fail
  refine HR.out.mono ?_
  rintro e w4 ⟨rfl, d4, k4⟩
  have r4 := k4.row H3.out.1 (fun b hb => hb)
  have HO := Lib.hid (popen_at api nap (n := 3) (ni := 3) rfl d4 H3.out.2.1 (by omega) (by omega) (by decide) H3.out.2.2 (by omega))
  have H4 := Lib.hid r4
  clear d4 k4 r4 HR
  go_wp2_with fail
  refine HO.out.mono ?_
  rintro e w5 ⟨j, t2, hj, hk, gt, G, rfl, p5, d5, k5⟩
  have r5 := k5.row H4.out (fun b hb => hb)
  have u5 := H3.out.2.1.count (D1.count + j)
  have HR2 := Lib.hid (d5.reads api u5)
  have H5 := Lib.hid (And.intro r5 (And.intro p5 (And.intro hk d5)))
  clear r5 p5 hk d5 k5 u5 HO
  have g1 : IntKind.i64.wrap (j : Int) = (j : Int) := IntWalk.i64_in _ ⟨by omega, by omega⟩
  have g1' : IntKind.i64.wrap ((j : Int) - 0) = (j : Int) := by rw [Int.sub_zero]; exact g1
  have g2 : decide ((2 : Int) < (j : Int)) = false := decide_eq_false (by omega)
  have HR2' : Hid (Calls Tryz.prog 11 #[ptr gd] w5 (DEnd At w gd (.int .i64 (j : Nat)) { D1 with count := D1.count + j } (G ++ ownL (.slice A1 M.length c1)) w5)) := Lib.hid (by
    have h := HR2.out
    have e : ((({ D1 with count := D1.count + j } : DiskS).count : Nat) : Int) = (j : Nat) := by show ((D1.count + j : Nat) : Int) = (j : Nat); omega
    rw [e] at h
    exact h)
  clear HR2
  go_wp2_with fail
  refine HR2'.out.mono ?_
  rintro e w6 ⟨rfl, d6, k6⟩
  have p6 := H5.out.2.1.keep k6 (fun b hb => List.mem_append_left _ hb)
  have r6 := k6.row H5.out.1 (fun b hb => List.mem_append_right _ hb)
  have HLn := Lib.hid (ptlen_run p6)
  have HNm : Hid (Calls Tryz.prog 14 #[ptr gt] w6 fun e w' => e = .returned (.int .i64 3) ∧ w6 = w') := Lib.hid (ptnum_run p6)
  have u6 := H3.out.2.1.count (D1.count + j)
  have HAl := Lib.hid (ptall_has api nap (n := 3) d6 u6 (by show D1.count + j ≤ _; omega) (by decide) p6 (fun b hb => List.mem_append_left _ hb) H3.out.2.2 (by omega))
  have H6 := Lib.hid (And.intro p6 r6)
  clear p6 r6 d6 k6 u6 HR2'
  go_wp2_with fail
  refine HLn.out.mono ?_
  rintro e w6' ⟨rfl, rfl⟩
  go_wp2_with fail
  refine HNm.out.mono ?_
  rintro e w6' ⟨rfl, rfl⟩
  go_wp2_with fail
  refine HAl.out.mono ?_
  rintro e w7 ⟨A7, c7, rfl, r7, d7, k7⟩
  have p7 := H6.out.1.keep k7 (fun b hb => List.mem_append_left _ hb)
  have rm7 := k7.row H6.out.2 (fun b hb => List.mem_append_right _ hb)
  have hSm := tsame_any _ _ M M w7 rm7.in_ r7.in_ (by omega) (by omega)
  rw [show decide (M = M) = true from decide_eq_true rfl] at hSm
  have HSm := Lib.hid hSm
  clear hSm
  have H7 := Lib.hid (And.intro p7 (And.intro rm7 d7))
  clear p7 rm7 r7 d7 k7 HAl HNm HLn
  go_wp2_with fail
  refine HSm.out.mono ?_
  rintro e w8 ⟨rfl, nn, hw8⟩
  have hB8 : Below w7.heap.size w7 w8 := by rw [hw8]; exact below_drewN (Below.refl _ _) nn
  have d8 := H7.out.2.2.below api hB8
  have p8 := H7.out.1.below hB8
  have u8 := H3.out.2.1.count (D1.count + j + 1)
  have HAn := Lib.hid (answers_run api nap (n := 3) d8 u8 (by show D1.count + j + 1 ≤ _; omega) (by decide) p8 (fun b hb => List.mem_append_right _ (List.mem_append_left _ hb)) H3.out.2.2 H5.out.2.2.1 (by omega) _ (H7.out.2.1.in_.below hB8 (Nat.le_refl _)) (fun b hb => List.mem_append_right _ (List.mem_append_right _ hb)) _ xs HX.out.1 HX.out.2.1 (by rw [HZ2.out]; omega))
  rw [HZ2.out] at HAn
  clear d8 p8 u8 hB8 hw8 HSm
  go_wp2_with fail
  refine HAn.out.mono ?_
  rintro e w9 ⟨j9, hj9, rfl, d9, k9⟩
  have H9 := Lib.hid d9.kept
  clear d9 k9 HAn
  go_wp2_with fail
  refine (HSml.out _).mono ?_
  rintro e w10 ⟨rfl, b10⟩
  have H10 := Lib.hid (H9.out.trans (b10.mono H9.out.size))
  clear b10
  go_wp2
  go_ret
  exact ⟨rfl, H10.out⟩
end
theorem walk (w : World) (v : Value) (l : List EntS) (va : Value) (xs : List AskS) (r : Nat) (hl : EntsIn w v l) (wl : ∀ x ∈ l, EntOk x) (ha : AsksIn w va xs) (wa : ∀ x ∈ xs, AskOk x) (hr : r < 18446744073709551616) :
    Calls Tryz.prog 3 #[v, va, .float .f64 r] w fun e w' => e = .returned (.bool true) ∧ Below w.heap.size w w' := by
  by_cases h : l.length ≤ 80 ∧ xs.length ≤ 40
  · exact short api napi w v l va xs r hl wl ha wa hr h.1 h.2
  · exact long api napi w v l va xs r hl ha (by omega)
end Go.Proofs.YtmbhafabphogdaaGreat.PtAn

/- PtFilterWalk -/
namespace Go.Proofs.YtmbhafabphogdaaGreat.PtFi
open Go.RowKit
set_option linter.unusedVariables false
set_option maxRecDepth 100000

theorem wf_wrap (x : Int) : (Lit.int .i64 (IntKind.i64.wrap x)).wf = true := WalkArith.wf_i64 (by rw [IntKind.wrap_i64]; omega)
theorem wf_mod (x : Int) (z : Nat) (hz : z ≤ 40000) : (Lit.int .i64 (x % ((z : Int) + 1))).wf = true := by
  have h1 := Int.emod_nonneg x (show (z : Int) + 1 ≠ 0 by omega)
  have h2 := Int.emod_lt_of_pos x (show (0 : Int) < (z : Int) + 1 by omega)
  exact WalkArith.wf_i64 ⟨by omega, by omega⟩
section
variable {At : Lies} (api : DiskApi At) (nap : NamesApi)
include api nap
theorem long (w : World) (v : Value) (l : List EntS) (va : Value) (xs : List AskS) (s : ByteArray) (hl : EntsIn w v l) (ha : AsksIn w va xs) (h : 60 < l.length ∨ 20 < xs.length ∨ 500 < s.size) :
    Calls Tryz.prog 4 #[v, va, .string s] w fun e w' => e = .returned (.bool true) ∧ Below w.heap.size w w' := by
  obtain ⟨A, off, c, rfl, -, -⟩ := hl.form
  obtain ⟨B, d, rfl⟩ := ha.form
  have HE := Lib.hid (small_true api nap w)
  by_cases h1 : 60 < l.length
  · have s1 : decide ((60 : Int) < (l.length : Int)) = true := decide_eq_true (by omega)
    clear h hl ha
    go_enter Tryz.func4, Tryz.ntmps4
    go_wp2_with fail
    refine HE.out.mono ?_
    rintro e w2 ⟨rfl, hb2⟩
    go_wp2
    go_ret
    exact ⟨rfl, hb2⟩
  · have s1 : decide ((60 : Int) < (l.length : Int)) = false := decide_eq_false (by omega)
    by_cases h2 : 20 < xs.length
    · have s2 : decide ((20 : Int) < (xs.length : Int)) = true := decide_eq_true (by omega)
      clear h hl ha h1
      go_enter Tryz.func4, Tryz.ntmps4
      go_wp2_with fail
      refine HE.out.mono ?_
      rintro e w2 ⟨rfl, hb2⟩
      go_wp2
      go_ret
      exact ⟨rfl, hb2⟩
    · have s2 : decide ((20 : Int) < (xs.length : Int)) = false := decide_eq_false (by omega)
      have s3 : decide ((500 : Int) < (s.size : Int)) = true := decide_eq_true (by omega)
      clear h hl ha h1 h2
      go_enter Tryz.func4, Tryz.ntmps4
      go_wp2_with fail
      refine HE.out.mono ?_
      rintro e w2 ⟨rfl, hb2⟩
      go_wp2
      go_ret
      exact ⟨rfl, hb2⟩
set_option maxHeartbeats 4000000 in
theorem short (w : World) (v : Value) (l : List EntS) (va : Value) (xs : List AskS) (s : ByteArray) (hl : EntsIn w v l) (wl : ∀ x ∈ l, EntOk x) (ha : AsksIn w va xs) (wa : ∀ x ∈ xs, AskOk x) (h1 : l.length ≤ 60) (h2 : xs.length ≤ 20) (h3 : s.size ≤ 500) :
    Calls Tryz.prog 4 #[v, va, .string s] w fun e w' => e = .returned (.bool true) ∧ Below w.heap.size w w' := by
  have HMd := Lib.hid (made_any v l w hl (by omega))
  have hml := madeE_length l
  obtain ⟨mok, mtb⟩ := madeE_ok l
  obtain ⟨A, off, c, rfl, -, -⟩ := hl.form
  obtain ⟨B, d, rfl⟩ := ha.form
  have s1 : decide ((60 : Int) < (l.length : Int)) = false := decide_eq_false (by omega)
  have s2 : decide ((20 : Int) < (xs.length : Int)) = false := decide_eq_false (by omega)
  have s3 : decide ((500 : Int) < (s.size : Int)) = false := decide_eq_false (by omega)
  have HX := Lib.hid (And.intro ha (And.intro wa (And.intro mok mtb)))
  have HSml := Lib.hid fun W => small_true api nap W
  generalize madeE l = M at *
  have hM : M.length ≤ 60 := by omega
  clear hl wl ha wa mok mtb hml
  generalize hz1 : l.length = z1 at *
  obtain ⟨z2, hz2⟩ : ∃ z2, xs.length = z2 := ⟨_, rfl⟩
  have HZ2 := Lib.hid hz2
  rw [hz2] at s2 h2 ⊢
  clear hz1 hz2 h1
  have HNb : Hid (∀ W, Calls Tryz.prog 18 #[.int .i64 1] W fun e w' => e = .returned (.string (ptB ((1 : Nat) : Int))) ∧ Below W.heap.size W w') := Lib.hid fun W => nap.bloom 1 W (by decide)
  have hnbl := ptB_le ((1 : Nat) : Int)
  go_enter Tryz.func4, Tryz.ntmps4
  go_wp2_with fail
  refine HMd.out.mono ?_
  rintro e w1 ⟨A1, c1, rfl, r1, b1⟩
  have hE1 : ∀ b ∈ ownL (.slice A1 M.length c1), b < w1.heap.size := fun b hb => (row_own r1 b hb).2
  have HN : Hid (Calls Tryz.prog 9 #[.int .i64 40000] w1 fun e w' => ∃ gd, e = .returned (.tuple #[ptr gd, .int .i64 0]) ∧ DS At w gd (newS 40000) (ownL (.slice A1 M.length c1)) w' ∧ Kept (ownL (.slice A1 M.length c1)) w1 w') := Lib.hid (ds_new api w w1 _ b1 hE1 40000 (by decide))
  have H1 := Lib.hid r1
  clear r1 b1 hE1 HMd
  go_wp2_with fail
  refine HN.out.mono ?_
  rintro e w2 ⟨gd, rfl, d2, k2⟩
  have r2 := k2.row H1.out (fun b hb => hb)
  have HWr := Lib.hid (pwrite_at api nap (n := 1) (ni := 1) rfl d2 (upd_new (by decide)) (by decide) _ r2.in_ (by omega) HX.out.2.2.1 HX.out.2.2.2 4576918229304087675 (by decide) (by decide) rfl rfl (by show 0 + 28 * M.length + 6268 ≤ 40000; omega))
  have H2 := Lib.hid r2
  clear d2 k2 r2 HN H1
  go_wp2_with fail
  refine HWr.out.mono ?_
  rintro e w3 ⟨t, D1, hw, rfl, d3, k3⟩
  have hts : t.size ≤ 40000 := by have := hw.used; have := hw.up.wf.used; have := hw.cap; have e : (newS 40000).cap = 40000 := rfl; omega
  have hF1 : FSt D1 1 M 0 := ⟨hw.up, by rw [hw.count]; exact Nat.le_refl _, hw.cap, hw.has (by omega) HX.out.2.2.1 HX.out.2.2.2⟩
  have hsz : sizeS D1 (ptB ((1 : Nat) : Int)) = (t.size, 0) := sizeS_of hw.up.down hw.bloom
  have H3 := Lib.hid (And.intro (k3.row H2.out (fun b hb => hb)) (And.intro hF1 d3))
  have HSz := Lib.hid hsz
  clear d3 k3 hw hF1 hsz HWr H2
  go_wp2_with fail
  refine (HNb.out _).mono ?_
  rintro e w4 ⟨rfl, b4⟩
  have d4 := H3.out.2.2.below api b4
  have hSz := d4.size api H3.out.2.1.up.wf (ptB ((1 : Nat) : Int)) hnbl
  rw [HSz.out] at hSz
  have HSz2 := Lib.hid hSz
  have H4 := Lib.hid (And.intro (H3.out.1.below b4 (Nat.le_refl _)) (And.intro H3.out.2.1 d4))
  have hFF := Lib.hid fun (D : DiskS) (c : Nat) (hF : FSt D 1 M c) W E (hd : DS At w gd D E W) => And.intro (fun (a : Int) (wa : (Lit.int .i64 a).wf = true) => hd.disk api (fun F hf => api.spoil (ptB ((1 : Nat) : Int)) a s hf hF.up.wf.ok wa (by omega) hnbl)) (And.intro (fun (a : Int) (wa : (Lit.int .i64 a).wf = true) => hd.disk api (fun F hf => api.cut (ptB ((1 : Nat) : Int)) a hf hF.up.wf.ok wa hnbl)) (hd.disk api (fun F hf => api.delete (ptB ((1 : Nat) : Int)) hf hF.up.wf.ok hnbl)))
  have hFk := Lib.hid fun (D : DiskS) (c : Nat) (hF : FSt D 1 M c) => And.intro (fun a => hF.spoil (by decide) a s) (And.intro (fun a => hF.cut (by decide) a) (hF.gone (by decide)))
  clear b4 d4 hSz hnbl
  generalize ptB ((1 : Nat) : Int) = nb at *
  clear HSz H3
  go_wp2_with fail
  refine HSz2.out.mono ?_
  rintro e w4' ⟨rfl, rfl⟩
  obtain ⟨z, hz⟩ : ∃ z, t.size = z := ⟨_, rfl⟩
  rw [hz] at hts
  obtain ⟨ov, hov⟩ : ∃ ov, s.size = ov := ⟨_, rfl⟩
  rw [hov] at h3
  have g1 : IntKind.i64.wrap ((ov : Int) * 7) = (ov : Int) * 7 := IntWalk.i64_in _ ⟨by omega, by omega⟩
  have g2 : IntKind.i64.wrap ((ov : Int) * 13) = (ov : Int) * 13 := IntWalk.i64_in _ ⟨by omega, by omega⟩
  have g3 : IntKind.i64.wrap ((z : Int) + 1) = (z : Int) + 1 := IntWalk.i64_in _ ⟨by omega, by omega⟩
  have g4 : (((z : Int) + 1) == 0) = false := by simp; omega
  have g5 : ¬ (z : Int) + 1 = 0 := by omega
  rw [hz]
  clear HSz2
  go_wp2_with fail
  go_loopw [13] (fun i wr => ∃ (k : Nat) (D : DiskS), k ≤ 4 ∧ i = .int .i64 k ∧ FSt D 1 M (42 * k) ∧ DS At w gd D (ownL (.slice A1 M.length c1)) wr ∧ EntRow wr w.heap.size (.slice A1 M.length c1) M) (fun i _ => 4 - (intOf i).toNat)
  case atStart => exact ⟨0, D1, by omega, rfl, H4.out.2.1, H4.out.2.2, H4.out.1⟩
  case round =>
    obtain ⟨k, D, hk, rfl, hF, hds, hrow⟩ := hrel
    clear H4
    by_cases hlt : k < 4
    · have HR := Lib.hid hrow
      have HD := Lib.hid hds
      have hFk2 := hFk.out D _ hF
      have hFF2 := Lib.hid (hFF.out D _ hF wr _ hds)
      have hk4 : k = 0 ∨ k = 1 ∨ k = 2 ∨ k = 3 := by omega
      clear hrow hds hFk hk hlt
      rcases hk4 with rfl | rfl | rfl | rfl
      · have H5 := Lib.hid (show ∃ D5, FSt D5 1 M (42 * 0) ∧ DS At w gd D5 (ownL (.slice A1 M.length c1)) wr ∧ EntRow wr w.heap.size (.slice A1 M.length c1) M from ⟨D, hF, HD.out, HR.out⟩)
        clear hFF2 hFk2 hF HD HR
        go_wp2_with fail
        obtain ⟨D5, hF5, hd5, hr5⟩ := H5.out
        have hcc := hF5.count
        have HO := Lib.hid (popen_at api nap (n := 1) (ni := 1) rfl hd5 hF5.up (by omega) (by have := hF5.cap; omega) (by decide) hF5.has (by omega))
        have H6 := Lib.hid (And.intro hF5 hr5)
        clear hF5 hd5 hr5 H5
        refine HO.out.mono ?_
        rintro e w6 ⟨j, t2, hj, hk2, gt, G, rfl, p6, d6, k6⟩
        have r6 := k6.row H6.out.2 (fun b hb => hb)
        have u6 := H6.out.1.up.count (D5.count + j)
        have hAn := answers_run api nap (n := 1) d6 u6 (by show D5.count + j ≤ _; omega) (by decide) p6 (fun b hb => List.mem_append_left _ hb) H6.out.1.has hk2 (by omega) _ r6.in_ (fun b hb => List.mem_append_right _ hb) _ xs HX.out.1 HX.out.2.1 (by rw [HZ2.out]; omega)
        rw [HZ2.out] at hAn
        have HAn := Lib.hid hAn
        have H7 := Lib.hid r6
        clear r6 u6 hAn p6 d6 k6 hk2 HO
        go_wp2_with fail
        refine HAn.out.mono ?_
        rintro e w7 ⟨j7, hj7, rfl, d7, k7⟩
        have H8 := Lib.hid (show FSt { D5 with count := D5.count + j + j7 } 1 M (42 * 1) ∧ DS At w gd { D5 with count := D5.count + j + j7 } (ownL (.slice A1 M.length c1)) w7 ∧ EntRow w7 w.heap.size (.slice A1 M.length c1) M from ⟨FSt.read (D := { D5 with count := D5.count + j }) (H6.out.1.read (j := j) (c' := 42 * 0 + 2) (by omega)) (by show D5.count + j + j7 ≤ _; omega), d7.less (fun b hb => List.mem_append_right _ hb), k7.row H7.out (fun b hb => List.mem_append_right _ hb)⟩)
        clear d7 k7 HAn H7 H6
        go_wp2
        go_roundw
        case rel => exact ⟨1, _, by omega, by go_num, H8.out.1, H8.out.2.1, H8.out.2.2⟩
        case measure => simp [intOf]
      · go_wp2_with fail
        refine (hFF2.out.1 _ (wf_mod _ z hts)).mono ?_
        rintro e w5 ⟨rfl, d5, k5⟩
        have H5 := Lib.hid (show ∃ D5, FSt D5 1 M (42 * 1) ∧ DS At w gd D5 (ownL (.slice A1 M.length c1)) w5 ∧ EntRow w5 w.heap.size (.slice A1 M.length c1) M from ⟨_, hFk2.1 _, d5, k5.row HR.out (fun b hb => hb)⟩)
        clear hFF2 hFk2 hF HD HR d5 k5
        go_wp2_with fail
        obtain ⟨D5, hF5, hd5, hr5⟩ := H5.out
        have hcc := hF5.count
        have HO := Lib.hid (popen_at api nap (n := 1) (ni := 1) rfl hd5 hF5.up (by omega) (by have := hF5.cap; omega) (by decide) hF5.has (by omega))
        have H6 := Lib.hid (And.intro hF5 hr5)
        clear hF5 hd5 hr5 H5
        refine HO.out.mono ?_
        rintro e w6 ⟨j, t2, hj, hk2, gt, G, rfl, p6, d6, k6⟩
        have r6 := k6.row H6.out.2 (fun b hb => hb)
        have u6 := H6.out.1.up.count (D5.count + j)
        have hAn := answers_run api nap (n := 1) d6 u6 (by show D5.count + j ≤ _; omega) (by decide) p6 (fun b hb => List.mem_append_left _ hb) H6.out.1.has hk2 (by omega) _ r6.in_ (fun b hb => List.mem_append_right _ hb) _ xs HX.out.1 HX.out.2.1 (by rw [HZ2.out]; omega)
        rw [HZ2.out] at hAn
        have HAn := Lib.hid hAn
        have H7 := Lib.hid r6
        clear r6 u6 hAn p6 d6 k6 hk2 HO
        go_wp2_with fail
        refine HAn.out.mono ?_
        rintro e w7 ⟨j7, hj7, rfl, d7, k7⟩
        have H8 := Lib.hid (show FSt { D5 with count := D5.count + j + j7 } 1 M (42 * 2) ∧ DS At w gd { D5 with count := D5.count + j + j7 } (ownL (.slice A1 M.length c1)) w7 ∧ EntRow w7 w.heap.size (.slice A1 M.length c1) M from ⟨FSt.read (D := { D5 with count := D5.count + j }) (H6.out.1.read (j := j) (c' := 42 * 1 + 2) (by omega)) (by show D5.count + j + j7 ≤ _; omega), d7.less (fun b hb => List.mem_append_right _ hb), k7.row H7.out (fun b hb => List.mem_append_right _ hb)⟩)
        clear d7 k7 HAn H7 H6
        go_wp2
        go_roundw
        case rel => exact ⟨2, _, by omega, by go_num, H8.out.1, H8.out.2.1, H8.out.2.2⟩
        case measure => simp [intOf]
      · go_wp2_with fail
        refine (hFF2.out.2.1 _ (wf_mod _ z hts)).mono ?_
        rintro e w5 ⟨rfl, d5, k5⟩
        have H5 := Lib.hid (show ∃ D5, FSt D5 1 M (42 * 2) ∧ DS At w gd D5 (ownL (.slice A1 M.length c1)) w5 ∧ EntRow w5 w.heap.size (.slice A1 M.length c1) M from ⟨_, hFk2.2.1 _, d5, k5.row HR.out (fun b hb => hb)⟩)
        clear hFF2 hFk2 hF HD HR d5 k5
        go_wp2_with fail
        obtain ⟨D5, hF5, hd5, hr5⟩ := H5.out
        have hcc := hF5.count
        have HO := Lib.hid (popen_at api nap (n := 1) (ni := 1) rfl hd5 hF5.up (by omega) (by have := hF5.cap; omega) (by decide) hF5.has (by omega))
        have H6 := Lib.hid (And.intro hF5 hr5)
        clear hF5 hd5 hr5 H5
        refine HO.out.mono ?_
        rintro e w6 ⟨j, t2, hj, hk2, gt, G, rfl, p6, d6, k6⟩
        have r6 := k6.row H6.out.2 (fun b hb => hb)
        have u6 := H6.out.1.up.count (D5.count + j)
        have hAn := answers_run api nap (n := 1) d6 u6 (by show D5.count + j ≤ _; omega) (by decide) p6 (fun b hb => List.mem_append_left _ hb) H6.out.1.has hk2 (by omega) _ r6.in_ (fun b hb => List.mem_append_right _ hb) _ xs HX.out.1 HX.out.2.1 (by rw [HZ2.out]; omega)
        rw [HZ2.out] at hAn
        have HAn := Lib.hid hAn
        have H7 := Lib.hid r6
        clear r6 u6 hAn p6 d6 k6 hk2 HO
        go_wp2_with fail
        refine HAn.out.mono ?_
        rintro e w7 ⟨j7, hj7, rfl, d7, k7⟩
        have H8 := Lib.hid (show FSt { D5 with count := D5.count + j + j7 } 1 M (42 * 3) ∧ DS At w gd { D5 with count := D5.count + j + j7 } (ownL (.slice A1 M.length c1)) w7 ∧ EntRow w7 w.heap.size (.slice A1 M.length c1) M from ⟨FSt.read (D := { D5 with count := D5.count + j }) (H6.out.1.read (j := j) (c' := 42 * 2 + 2) (by omega)) (by show D5.count + j + j7 ≤ _; omega), d7.less (fun b hb => List.mem_append_right _ hb), k7.row H7.out (fun b hb => List.mem_append_right _ hb)⟩)
        clear d7 k7 HAn H7 H6
        go_wp2
        go_roundw
        case rel => exact ⟨3, _, by omega, by go_num, H8.out.1, H8.out.2.1, H8.out.2.2⟩
        case measure => simp [intOf]
      · go_wp2_with fail
        refine (hFF2.out.2.2).mono ?_
        rintro e w5 ⟨rfl, d5, k5⟩
        have H5 := Lib.hid (show ∃ D5, FSt D5 1 M (42 * 3) ∧ DS At w gd D5 (ownL (.slice A1 M.length c1)) w5 ∧ EntRow w5 w.heap.size (.slice A1 M.length c1) M from ⟨_, hFk2.2.2, d5, k5.row HR.out (fun b hb => hb)⟩)
        clear hFF2 hFk2 hF HD HR d5 k5
        go_wp2_with fail
        obtain ⟨D5, hF5, hd5, hr5⟩ := H5.out
        have hcc := hF5.count
        have HO := Lib.hid (popen_at api nap (n := 1) (ni := 1) rfl hd5 hF5.up (by omega) (by have := hF5.cap; omega) (by decide) hF5.has (by omega))
        have H6 := Lib.hid (And.intro hF5 hr5)
        clear hF5 hd5 hr5 H5
        refine HO.out.mono ?_
        rintro e w6 ⟨j, t2, hj, hk2, gt, G, rfl, p6, d6, k6⟩
        have r6 := k6.row H6.out.2 (fun b hb => hb)
        have u6 := H6.out.1.up.count (D5.count + j)
        have hAn := answers_run api nap (n := 1) d6 u6 (by show D5.count + j ≤ _; omega) (by decide) p6 (fun b hb => List.mem_append_left _ hb) H6.out.1.has hk2 (by omega) _ r6.in_ (fun b hb => List.mem_append_right _ hb) _ xs HX.out.1 HX.out.2.1 (by rw [HZ2.out]; omega)
        rw [HZ2.out] at hAn
        have HAn := Lib.hid hAn
        have H7 := Lib.hid r6
        clear r6 u6 hAn p6 d6 k6 hk2 HO
        go_wp2_with fail
        refine HAn.out.mono ?_
        rintro e w7 ⟨j7, hj7, rfl, d7, k7⟩
        have H8 := Lib.hid (show FSt { D5 with count := D5.count + j + j7 } 1 M (42 * 4) ∧ DS At w gd { D5 with count := D5.count + j + j7 } (ownL (.slice A1 M.length c1)) w7 ∧ EntRow w7 w.heap.size (.slice A1 M.length c1) M from ⟨FSt.read (D := { D5 with count := D5.count + j }) (H6.out.1.read (j := j) (c' := 42 * 3 + 2) (by omega)) (by show D5.count + j + j7 ≤ _; omega), d7.less (fun b hb => List.mem_append_right _ hb), k7.row H7.out (fun b hb => List.mem_append_right _ hb)⟩)
        clear d7 k7 HAn H7 H6
        go_wp2
        go_roundw
        case rel => exact ⟨4, _, by omega, by go_num, H8.out.1, H8.out.2.1, H8.out.2.2⟩
        case measure => simp [intOf]
    · obtain rfl : k = 4 := by omega
      have HK := Lib.hid hds.kept
      clear hF hds hrow hFF hFk
      go_wp2_with fail
      refine (HSml.out _).mono ?_
      rintro e w10 ⟨rfl, b10⟩
      have H10 := Lib.hid (HK.out.trans (b10.mono HK.out.size))
      clear b10
      go_wp2
      go_ret
      exact ⟨rfl, H10.out⟩
end
theorem walk (w : World) (v : Value) (l : List EntS) (va : Value) (xs : List AskS) (s : ByteArray) (hl : EntsIn w v l) (wl : ∀ x ∈ l, EntOk x) (ha : AsksIn w va xs) (wa : ∀ x ∈ xs, AskOk x) (hs : s.size ≤ maxLen) :
    Calls Tryz.prog 4 #[v, va, .string s] w fun e w' => e = .returned (.bool true) ∧ Below w.heap.size w w' := by
  by_cases h : l.length ≤ 60 ∧ xs.length ≤ 20 ∧ s.size ≤ 500
  · exact short api napi w v l va xs s hl wl ha wa h.1 h.2.1 h.2.2
  · exact long api napi w v l va xs s hl ha (by omega)
end Go.Proofs.YtmbhafabphogdaaGreat.PtFi

/- PtSpoiltWalk -/
namespace Go.Proofs.YtmbhafabphogdaaGreat.PtSp
open Go.RowKit
set_option linter.unusedVariables false
set_option maxRecDepth 100000

/-- A file that is deleted, where names rise. -/
theorem gone_file {l : List FileS} (hr : l.Pairwise (fun f g => lessB f.name g.name = true)) (n : ByteArray) : fileOf (dropS l (findS l n)) n = none := by
  rw [fileOf_none]
  intro x hx e
  unfold dropS at hx
  rcases List.mem_append.1 hx with hx | hx
  · obtain ⟨j, hj⟩ := List.getElem?_of_mem hx
    have hjl := (List.getElem?_eq_some_iff.1 hj).1
    rw [List.length_take] at hjl
    have := List.not_of_lt_findIdx (p := fun f => decide (f.name = n)) (xs := l) (i := j) (by unfold findS at hjl; omega)
    rw [List.getElem?_take, if_pos (by omega), List.getElem?_eq_getElem (by omega)] at hj
    rw [Option.some.inj hj] at this
    simp [e] at this
  · obtain ⟨j, hj⟩ := List.getElem?_of_mem hx
    rw [List.getElem?_drop] at hj
    have hjl := (List.getElem?_eq_some_iff.1 hj).1
    have hlt : findS l n < l.length := by omega
    obtain ⟨g, hg, eg⟩ := find_at hlt
    have h2 := List.pairwise_iff_getElem.1 hr (findS l n) (findS l n + 1 + j) hlt hjl (by omega)
    rw [List.getElem?_eq_getElem hlt] at hg
    rw [List.getElem?_eq_getElem hjl] at hj
    rw [Option.some.inj hg, Option.some.inj hj, eg, e] at h2
    exact less_irrefl _ h2
section
variable {At : Lies} (api : DiskApi At) (nap : NamesApi)
include api nap
theorem long (w : World) (v : Value) (l : List EntS) (s : ByteArray) (at' : Int) (hl : EntsIn w v l) (h : 60 < l.length ∨ 300 < s.size) :
    Calls Tryz.prog 5 #[v, .string s, .int .u16 at'] w fun e w' => e = .returned (.bool true) ∧ Below w.heap.size w w' := by
  obtain ⟨A, off, c, rfl, -, -⟩ := hl.form
  have HE := Lib.hid (small_true api nap w)
  by_cases h1 : 60 < l.length
  · have s1 : decide ((60 : Int) < (l.length : Int)) = true := decide_eq_true (by omega)
    clear h hl
    go_enter Tryz.func5, Tryz.ntmps5
    go_wp2_with fail
    refine HE.out.mono ?_
    rintro e w2 ⟨rfl, hb2⟩
    go_wp2
    go_ret
    exact ⟨rfl, hb2⟩
  · have s1 : decide ((60 : Int) < (l.length : Int)) = false := decide_eq_false (by omega)
    have s3 : decide ((300 : Int) < (s.size : Int)) = true := decide_eq_true (by omega)
    clear h hl h1
    go_enter Tryz.func5, Tryz.ntmps5
    go_wp2_with fail
    refine HE.out.mono ?_
    rintro e w2 ⟨rfl, hb2⟩
    go_wp2
    go_ret
    exact ⟨rfl, hb2⟩
set_option maxHeartbeats 4000000 in
theorem short (w : World) (v : Value) (l : List EntS) (s : ByteArray) (at' : Nat) (hl : EntsIn w v l) (wl : ∀ x ∈ l, EntOk x) (hat : at' < 65536) (h1 : l.length ≤ 60) (h3 : s.size ≤ 300) :
    Calls Tryz.prog 5 #[v, .string s, .int .u16 (at' : Nat)] w fun e w' => e = .returned (.bool true) ∧ Below w.heap.size w w' := by
  have HMd := Lib.hid fun W (hW : Below w.heap.size w W) => made_any v l W (hl.below hW (Nat.le_refl _)) (by omega)
  have hml := madeE_length l
  obtain ⟨mok, mtb⟩ := madeE_ok l
  obtain ⟨A, off, c, rfl, -, -⟩ := hl.form
  have s1 : decide ((60 : Int) < (l.length : Int)) = false := decide_eq_false (by omega)
  have s3 : decide ((300 : Int) < (s.size : Int)) = false := decide_eq_false (by omega)
  have HX := Lib.hid (And.intro mok mtb)
  have HSml := Lib.hid fun W => small_true api nap W
  generalize madeE l = M at *
  have hM : M.length ≤ 60 := by omega
  clear hl wl mok mtb hml
  generalize hz1 : l.length = z1 at *
  clear hz1 h1
  have HNt : Hid (∀ W, Calls Tryz.prog 23 #[.int .i64 2] W fun e w' => e = .returned (.string (ptT ((2 : Nat) : Int))) ∧ Below W.heap.size W w') := Lib.hid fun W => nap.table 2 W (by decide)
  have HN : Hid (Calls Tryz.prog 9 #[.int .i64 40000] w fun e w' => ∃ gd, e = .returned (.tuple #[ptr gd, .int .i64 0]) ∧ DS At w gd (newS 40000) [] w' ∧ Kept [] w w') := Lib.hid (ds_new api w w [] (Below.refl _ _) (fun b hb => by cases hb) 40000 (by decide))
  go_enter Tryz.func5, Tryz.ntmps5
  go_wp2_with fail
  refine HN.out.mono ?_
  rintro e w1 ⟨gd, rfl, d1, -⟩
  have HM := Lib.hid (HMd.out w1 d1.kept)
  have H1 := Lib.hid d1
  clear d1 HN HMd
  go_wp2_with fail
  refine HM.out.mono ?_
  rintro e w2 ⟨A2, c2, rfl, r2, b2⟩
  have d2 := H1.out.below api b2
  have HWr := Lib.hid (pwrite_at api nap (n := 2) (ni := 2) rfl d2 (upd_new (by decide)) (by decide) _ r2.in_ (by omega) HX.out.1 HX.out.2 4602678819172646912 (by decide) (by decide) rfl rfl (by show 0 + 28 * M.length + 6268 ≤ 40000; omega))
  clear d2 r2 b2 HM H1
  go_wp2_with fail
  refine HWr.out.mono ?_
  rintro e w3 ⟨t, D1, hw, rfl, d3, k3⟩
  have hsz : sizeS D1 (ptT ((2 : Nat) : Int)) = ((tbB M).size, 0) := sizeS_of hw.up.down hw.table
  have hts := tbB_size M
  have hc1 : D1.count = 0 := hw.count
  have hcap1 : D1.cap = 40000 := hw.cap
  have HW := Lib.hid hw
  have H3 := Lib.hid d3
  clear d3 k3 hw HWr
  go_wp2_with fail
  refine (HNt.out _).mono ?_
  rintro e w4 ⟨rfl, b4⟩
  have d4 := H3.out.below api b4
  have hSz := d4.size api HW.out.up.wf (ptT ((2 : Nat) : Int)) (ptT_le _)
  rw [hsz] at hSz
  have HSz := Lib.hid hSz
  obtain ⟨S, hS⟩ : ∃ S, tbB M = S := ⟨_, rfl⟩
  have HT := HW.out.table
  rw [hS] at HT hts HSz
  obtain ⟨z, hz⟩ : ∃ z, S.size = z := ⟨_, rfl⟩
  rw [hz] at hts HSz HT
  obtain ⟨a, ha⟩ : ∃ a : Nat, at' % (z + 1) = a := ⟨_, rfl⟩
  have ha2 : a ≤ 65536 := by have := Nat.mod_le at' (z + 1); omega
  have g4 : (at' : Int) % ((z : Int) + 1) = (a : Int) := by rw [← ha]; push_cast; rfl
  obtain ⟨E, e1, u1, q1, q2, q3, -⟩ := spoil_of HW.out.up HT a s
  have hoz := overS_size S s a
  rw [hz] at hoz
  have g1 : IntKind.i64.wrap ((z : Int) + 1) = (z : Int) + 1 := IntWalk.i64_in _ ⟨by omega, by omega⟩
  have g2 : (((z : Int) + 1) == 0) = false := by simp; omega
  have g3 : ¬ (z : Int) + 1 = 0 := by omega
  have g5 : IntKind.i64.wrap (at' : Int) = (at' : Int) := IntWalk.i64_in _ ⟨by omega, by omega⟩
  have hSp := Lib.hid fun (v : Value) (hv : v = .int .i64 (a : Nat)) => (show Calls Tryz.prog 20 #[ptr gd, .string (ptT ((2 : Nat) : Int)), v, .string s] w4 (DEnd At w gd (.int .i64 0) E [] w4) from by
    rw [hv]
    have h := d4.disk api (fun F hf => api.spoil (ptT ((2 : Nat) : Int)) (a : Nat) s hf HW.out.up.wf.ok (WalkArith.wf_i64 (by omega)) (by omega) (ptT_le _))
    rw [e1] at h
    exact h)
  obtain ⟨T, hT⟩ : ∃ T, overS S s a = T := ⟨_, rfl⟩
  rw [hT] at q3 hoz
  have hE : E.count = 0 ∧ E.cap = 40000 := ⟨q1.trans hc1, q2.trans hcap1⟩
  have hrd : readS E (ptT ((2 : Nat) : Int)) ((0 : Nat) : Int) ((z : Nat) : Int) = (T, 0, { E with count := E.count + 1 }) := by
    rw [readS_of u1.down q3 (by show 0 + z ≤ T.size; omega)]
    have e : T.extract 0 (0 + z) = T := by
      apply ByteArray.ext
      rw [ByteArray.data_extract, Nat.zero_add, ← hoz]
      exact Array.extract_size
    rw [e]
  have hRd := Lib.hid fun W E' (hW : DS At w gd E E' W) => (show Calls Tryz.prog 24 #[ptr gd, .string (ptT ((2 : Nat) : Int)), .int .i64 0, .int .i64 (z : Nat)] W (DEnd At w gd (.tuple #[.string T, .int .i64 0]) { E with count := E.count + 1 } E' W) from by
    have h := hW.disk api (fun F hf => api.read (ptT ((2 : Nat) : Int)) ((0 : Nat) : Int) ((z : Nat) : Int) hf u1.wf.ok (by omega) (by decide) (WalkArith.wf_i64 (by omega)) (ptT_le _))
    rw [hrd] at h
    exact h)
  have HG := Lib.hid fun W => tget_any T W (by omega)
  have hTo : tgOk T = true → HasT E 2 (tgL T) := fun h => ⟨_, q3, h, rfl⟩
  have hTs : tgOk T = true → (tgL T).length ≤ 1000 := fun h => by have := (tg_rise h).2.2; omega
  have hYes := Lib.hid fun (h : tgOk T = true) W E' (hW : DS At w gd { E with count := E.count + 1 } E' W) => popen_at api nap (n := 2) (ni := 2) rfl hW (u1.count _) (by show E.count + 1 ≤ _; omega) (by show E.cap ≤ _; omega) (by decide) (has_other (hTo h) rfl) (by have := hTs h; omega)
  have hAll := Lib.hid fun (h : tgOk T = true) (k : Nat) (hk : k ≤ 10) W E' gt t G (hW : DS At w gd { E with count := k } E' W) (hp : PtAt W gt gd ((2 : Nat) : Int) (tgL T) t G) (hG : ∀ b ∈ G, b ∈ E') => ptall_has api nap (n := 2) hW (u1.count _) (by show k ≤ _; omega) (by decide) hp hG (has_other (hTo h) rfl) (by have := hTs h; omega)
  have hNo := Lib.hid fun (h : tgOk T = false) W E' (hW : DS At w gd { E with count := E.count + 1 } E' W) => (show Calls Tryz.prog 12 #[ptr gd, .int .i64 2] W (DEnd At w gd (.tuple #[.pointer none, .int .i64 90]) { E with count := E.count + 1 + 1 } E' W) from by
    have e : rdW { E with count := E.count + 1 } (ptT ((2 : Nat) : Int)) = (T, 0, { E with count := E.count + 1 + 1 }) := rdW_of (D := { E with count := E.count + 1 }) u1.down q3
    have hP := popen_no api nap hW (u1.count _).wf (by show E.count + 1 ≤ _; omega) (by show E.cap ≤ _; omega) ((2 : Nat) : Int) (by decide) u1.down (Or.inr (by rw [e]; exact h))
    rw [e] at hP
    exact hP)
  have hDel := Lib.hid fun (k : Nat) (hk : k ≤ 10) W E' (hW : DS At w gd { E with count := k } E' W) => (show Calls Tryz.prog 22 #[ptr gd, .string (ptT ((2 : Nat) : Int))] W fun e W' => e = .returned (.int .i64 0) ∧ Below w.heap.size w W' ∧ Calls Tryz.prog 26 #[ptr gd] W' fun e W2 => e = .returned (.bool true) ∧ Below w.heap.size w W2 from by
    have u2 : UpD { E with count := k } := u1.count k
    obtain ⟨E2, e2, v2, c2, p2, l2, -, -, -⟩ := deleteS_of u2 (n := ptT ((2 : Nat) : Int)) q3
    have hf2 : fileOf E2.l (ptT ((2 : Nat) : Int)) = none := by rw [l2]; exact gone_file (hW.rise api) _
    have h := hW.disk api (fun F hf => api.delete (ptT ((2 : Nat) : Int)) hf u2.wf.ok (ptT_le _))
    rw [e2] at h
    refine h.mono ?_
    rintro e W' ⟨rfl, d, -⟩
    refine ⟨rfl, d.kept, (missing_run api nap d v2 (by rw [c2]; show k ≤ _; omega) (by rw [p2]; show E.cap ≤ _; omega) hf2).mono ?_⟩
    rintro e W2 ⟨rfl, d2, -⟩
    exact ⟨rfl, d2.kept⟩)
  clear HT e1 u1 q1 q2 q3 hrd hS ha hc1 hcap1 HW H3 hSz hsz hTo hTs
  have H4 := Lib.hid d4
  clear d4 b4
  have hz3 : z ≤ 2000 := by omega
  clear hts
  have hcE : E.count = 0 := hE.1
  have hTk : tgOk T = true → (tgL T).length ≤ 1000 := fun h => by have := (tg_rise h).2.2; omega
  generalize ptT ((2 : Nat) : Int) = nm at *
  go_wp2_with fail
  refine HSz.out.mono ?_
  rintro e w4' ⟨rfl, rfl⟩
  go_wp2_with fail
  refine (hSp.out _ rfl).mono ?_
  rintro e w5 ⟨rfl, d5, -⟩
  have HRd := Lib.hid (hRd.out _ _ d5)
  clear d5 hSp HSz H4
  go_wp2_with fail
  refine HRd.out.mono ?_
  rintro e w6 ⟨rfl, d6, -⟩
  have HGt := Lib.hid (HG.out w6)
  have H6 := Lib.hid d6
  clear d6 HRd hRd HG
  unfold TgEnd at HGt
  cases hT2 : tgOk T with
  | true =>
    have hL := hTk hT2
    rw [(tg_yes hT2).2] at HGt
    have HT2 := Lib.hid hT2
    clear hT2 hTk hNo
    generalize tgL T = L at *
    go_wp2_with fail
    refine HGt.out.mono ?_
    rintro e w7 ⟨A7, c7, rfl, r7, b7⟩
    have d7 := H6.out.more api b7 (B := ownL (.slice A7 L.length c7)) (fun b hb => row_own r7 b hb)
    have HO := Lib.hid (hYes.out HT2.out _ _ d7)
    have H7 := Lib.hid r7
    clear d7 r7 b7 HGt hYes H6
    go_wp2_with fail
    refine HO.out.mono ?_
    rintro e w8 ⟨j, t2, hj, -, gt, G, rfl, p8, d8, k8⟩
    have r8 := k8.row H7.out (fun b hb => List.mem_append_left _ hb)
    have HLn := Lib.hid (ptlen_run p8)
    have HAl := Lib.hid (hAll.out HT2.out (E.count + 1 + j) (by omega) _ _ _ _ _ d8 p8 (fun b hb => List.mem_append_left _ hb))
    have H8 := Lib.hid r8
    clear r8 p8 d8 k8 HO H7
    go_wp2_with fail
    refine HLn.out.mono ?_
    rintro e w8' ⟨rfl, rfl⟩
    go_wp2_with fail
    refine HAl.out.mono ?_
    rintro e w9 ⟨A9, c9, rfl, r9, d9, k9⟩
    have rm9 := k9.row H8.out (fun b hb => List.mem_append_right _ (List.mem_append_left _ hb))
    have hSm := tsame_any _ _ L L w9 rm9.in_ r9.in_ (by omega) (by omega)
    rw [show decide (L = L) = true from decide_eq_true rfl] at hSm
    have HSm := Lib.hid hSm
    have H9 := Lib.hid d9
    clear hSm rm9 r9 d9 k9 HAl HLn H8 hAll
    go_wp2_with fail
    refine HSm.out.mono ?_
    rintro e w10 ⟨rfl, nn, hw10⟩
    have HDe := Lib.hid (hDel.out (E.count + 1 + j + 1) (by omega) _ _ (H9.out.below api (show Below w9.heap.size w9 w10 from by rw [hw10]; exact below_drewN (Below.refl _ _) nn)))
    clear hw10 HSm H9 hDel
    go_wp2_with fail
    refine HDe.out.mono ?_
    rintro e w11 ⟨rfl, -, hm11⟩
    have HM := Lib.hid hm11
    clear hm11 HDe
    go_wp2_with fail
    refine HM.out.mono ?_
    rintro e w12 ⟨rfl, b12⟩
    have H12 := Lib.hid b12
    clear b12 HM
    go_wp2_with fail
    refine (HSml.out _).mono ?_
    rintro e w13 ⟨rfl, b13⟩
    have H13 := Lib.hid (H12.out.trans (b13.mono H12.out.size))
    clear b13
    go_wp2
    go_ret
    exact ⟨rfl, H13.out⟩
  | false =>
    obtain ⟨x1, x2⟩ := tg_no hT2
    rw [x1, x2] at HGt
    have HN2 := Lib.hid (hNo.out hT2)
    clear hT2 hTk hYes hAll hNo x1 x2
    go_wp2_with fail
    refine HGt.out.mono ?_
    rintro e w7 ⟨A7, c7, rfl, -, b7⟩
    have HO := Lib.hid (HN2.out _ _ (H6.out.below api b7))
    clear b7 HGt H6 HN2
    go_wp2_with fail
    refine HO.out.mono ?_
    rintro e w8 ⟨rfl, d8, -⟩
    have HLn := Lib.hid (ptlen_nil w8)
    have HAl := Lib.hid (ptall_nil w8)
    have HEq := Lib.hid (ptnil_eq w8)
    have HDe := Lib.hid (hDel.out (E.count + 1 + 1) (by omega) _ _ d8)
    clear d8 HO hDel
    go_wp2_with fail
    refine HLn.out.mono ?_
    rintro e w8' ⟨rfl, rfl⟩
    go_wp2_with fail
    refine HAl.out.mono ?_
    rintro e w8' ⟨rfl, rfl⟩
    have heq := HEq.out
    go_wp2_with fail
    refine HDe.out.mono ?_
    rintro e w11 ⟨rfl, -, hm11⟩
    have HM := Lib.hid hm11
    clear hm11 HDe
    go_wp2_with fail
    refine HM.out.mono ?_
    rintro e w12 ⟨rfl, b12⟩
    have H12 := Lib.hid b12
    clear b12 HM
    go_wp2_with fail
    refine (HSml.out _).mono ?_
    rintro e w13 ⟨rfl, b13⟩
    have H13 := Lib.hid (H12.out.trans (b13.mono H12.out.size))
    clear b13
    go_wp2
    go_ret
    exact ⟨rfl, H13.out⟩
end
theorem walk (w : World) (v : Value) (l : List EntS) (s : ByteArray) (at' : Int) (hl : EntsIn w v l) (wl : ∀ x ∈ l, EntOk x) (hs : s.size ≤ maxLen) (wat : (Lit.int .u16 at').wf = true) :
    Calls Tryz.prog 5 #[v, .string s, .int .u16 at'] w fun e w' => e = .returned (.bool true) ∧ Below w.heap.size w w' := by
  by_cases h : l.length ≤ 60 ∧ s.size ≤ 300
  · obtain ⟨n, rfl, hn⟩ := u16_nat wat
    exact short api napi w v l s n hl wl hn h.1 h.2
  · exact long api napi w v l s at' hl (by omega)
end Go.Proofs.YtmbhafabphogdaaGreat.PtSp

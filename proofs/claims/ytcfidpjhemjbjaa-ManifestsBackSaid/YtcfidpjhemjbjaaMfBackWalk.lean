/- The walk of ManifestsBack. -/
import Derived.Test.YtcfidpjhemjbjaaMfBackAt
namespace Go.Proofs.Ytcfidpjhemjbjaa
open Go.RowKit Go.Shelf
set_option linter.unusedVariables false
set_option maxRecDepth 100000

theorem mfB_same {m : ManS} (k : Nat) : mfB (moreM (trimM m) k) = mfB m := by rw [moreM_put, mfB_trim]
theorem back_get (m : ManS) (hm : MayM m) (hs : m.seed < 18446744073709551616) (W : World) : Calls Try.prog 10 #[.string (mfB m)] W fun e w' => ∃ (A : Option Addr) (n c : Nat) (M : List LvS), e = .returned (.tuple #[.agg #[.int .i64 m.next, .int .i64 m.check, .int .u64 (m.seed : Nat), .slice A n c], .int .i64 0]) ∧ n = M.length ∧ lvl M = trimL m.lv ∧ LvRow w' W.heap.size (.slice A n c) M ∧ LvOwn w' W.heap.size M ∧ Below W.heap.size W w' :=
  (mget_any (mfB m) W (by have := mfB_small hm; omega)).mono fun e w' h => by
    obtain ⟨x0, x1, x2, A, n, c, R, h1, h2, h3, ⟨M, h4, h5, h6⟩, h7, -⟩ := h
    obtain ⟨r1, r2⟩ := mg_back hm hs
    rw [r1] at h1
    rw [r2] at h2
    unfold trimM at h2
    have e0 := congrArg ManS.next h2
    have e1 := congrArg ManS.check h2
    have e2 := congrArg ManS.seed h2
    have e3 := congrArg ManS.lv h2
    simp only at e0 e1 e2 e3
    subst e0
    subst e1
    subst e2
    exact ⟨A, n, c, M, h1, by rw [h3, ← h6, lvl_length], by rw [h6, ← e3], h4, h5, h7⟩
theorem back_put (m : ManS) (hm : MayM m) (hs : m.seed < 18446744073709551616) (A : Option Addr) (n c j : Nat) (M : List LvS) (W : World) (h : LvsHas W (.slice A n c) (lvl M)) (hn : n = M.length) (hM : lvl M = trimL m.lv ++ List.replicate j []) (h5 : n ≤ 5) :
    Calls Try.prog 8 #[.agg #[.int .i64 m.next, .int .i64 m.check, .int .u64 (m.seed : Nat), .slice A n c]] W fun e w' => e = .returned (.tuple #[.string (mfB m), .int .i64 0]) ∧ Below W.heap.size W w' := by
  have hmm : (⟨m.next, m.check, m.seed, lvl M⟩ : ManS) = moreM (trimM m) j := by rw [hM]; rfl
  have hl : (lvl M).length = n := by rw [lvl_length, hn]
  have hj : (trimL m.lv).length + j ≤ 5 := by
    have := congrArg List.length hM
    rw [hl, List.length_append, List.length_replicate] at this
    omega
  have hmay : MayM (moreM (trimM m) j) := moreM_may (mayM_trim hm) hj
  have hfl : (lvl M).flatten.length ≤ 40 := by
    have := hmay.2.2.2.2.1.2.1
    rw [← hmm] at this
    exact this
  refine (mput_any m.next m.check m.seed A n c (lvl M) W h hl.symm (by omega) (by omega) hs).mono ?_
  rintro e w' ⟨he, hb⟩
  rw [hmm] at he
  obtain ⟨r1, r2⟩ := mf_yes hmay
  rw [r1, r2, mfB_same] at he
  exact ⟨he, hb⟩
theorem back_same (m : ManS) (A A2 : Option Addr) (k cp n c j : Nat) (M : List LvS) (W : World) (h1 : LvsHas W (.slice A k cp) m.lv) (hk : k = m.lv.length) (h : LvsHas W (.slice A2 n c) (lvl M)) (hn : n = M.length) (hM : lvl M = trimL m.lv ++ List.replicate j []) (h5 : n ≤ 5) (h6 : k ≤ 10) :
    Calls Try.prog 15 #[.agg #[.int .i64 m.next, .int .i64 m.check, .int .u64 (m.seed : Nat), .slice A k cp], .agg #[.int .i64 m.next, .int .i64 m.check, .int .u64 (m.seed : Nat), .slice A2 n c]] W fun e w' => e = .returned (.bool true) ∧ Below W.heap.size W w' := by
  have hmm : (⟨m.next, m.check, m.seed, lvl M⟩ : ManS) = moreM (trimM m) j := by rw [hM]; rfl
  refine (msame_any m.next m.check m.seed A k cp m.lv m.next m.check m.seed A2 n c (lvl M) W h1 h hk (by rw [lvl_length]; exact hn) (by omega) (by omega)).mono ?_
  rintro e w' ⟨he, hb⟩
  have hs : sameM ⟨m.next, m.check, m.seed, m.lv⟩ ⟨m.next, m.check, m.seed, lvl M⟩ = true := by
    rw [hmm]
    exact sameM_more j (sameM_trim m)
  rw [hs] at he
  exact ⟨he, hb⟩
theorem back_valid (m : ManS) (hm : MayM m) (A2 : Option Addr) (n c : Nat) (M : List LvS) (W : World) (h : LvsHas W (.slice A2 n c) (lvl M)) (hM : lvl M = trimL m.lv) :
    Calls Try.prog 13 #[.agg #[.int .i64 m.next, .int .i64 m.check, .int .u64 (m.seed : Nat), .slice A2 n c]] W fun e w' => e = .returned (.bool true) ∧ Below W.heap.size W w' := by
  have hmm : (⟨m.next, m.check, m.seed, lvl M⟩ : ManS) = trimM m := by rw [hM]; rfl
  have hmay := mayM_trim hm
  have h1 := hmay.2.2.2.2.1
  rw [← hmm] at h1
  refine (mval_any m.next m.check m.seed A2 n c (lvl M) W h (by have := h1.2.1; simp only at this; omega) (by have := h1.1; simp only at this; omega)).mono ?_
  rintro e w' ⟨he, hb⟩
  rw [show mayM ⟨m.next, m.check, m.seed, lvl M⟩ = true by rw [hmm]; exact decide_eq_true hmay] at he
  exact ⟨he, hb⟩
namespace MfBack
set_option maxHeartbeats 1000000 in
theorem walk (W : World) (v0 : Value) (a1 : Int) (wx0 : ManIn W v0) (w1 : (Lit.int .u8 a1).wf = true) :
    Calls Try.prog 4 #[v0, .int .u8 a1] W fun e w' => e = .returned (.bool true) ∧ Below W.heap.size W w' := by
  obtain ⟨x0, x1, x2, A, k, cp, R, rfl, hk, hR, hx2, hmx⟩ := wx0
  obtain ⟨b, rfl, hb8⟩ := u8_nat w1
  have hb0 := (Below.refl W.heap.size W).alloc (Nat.le_refl _) (manO x0 x1 x2 (.slice A k cp))
  have HB0 := Lib.hid hb0
  have hR1 := hR.below hb0 (Nat.le_refl _)
  have HG := Lib.hid (lgreat_any (.slice A k cp) R (W.alloc (manO x0 x1 x2 (.slice A k cp))) hR1)
  have HS := Lib.hid sealed_true
  have HR0 := Lib.hid hR
  have HR := Lib.hid hR1
  have HBX := Lib.hid (Blok.new W 25 #[.int .i64 x0, .int .i64 x1, .int .u64 (x2 : Nat), .slice A k cp])
  have HK := Lib.hid hk
  have HX2 := Lib.hid hx2
  unfold manV
  unfold MfTrueEnd at HS
  unfold LvGreatEnd at HG
  clear hb0 hR hR1 hk hmx w1 hx2
  go_enter Try.func4, Try.ntmps4
  go_wp2_with fail
  refine HG.out.mono ?_
  rintro e w2 ⟨q, rfl, hw2, hq⟩
  rw [← hw2] at HR HBX HB0
  clear hw2
  cases q with
  | true =>
    clear hq HG HR HBX
    go_wp2_with fail
    refine (HS.out _).mono ?_
    rintro e w3 ⟨rfl, hb3⟩
    have HB3 := Lib.hid hb3
    clear hb3
    go_wp2
    go_ret
    exact ⟨rfl, bj HB0.out HB3.out⟩
  | false =>
    have hfew := hq rfl
    have hfl := few_flat hfew
    have hL : R.length ≤ 10 := hfew.1
    have HFL := Lib.hid (And.intro hfl hL)
    clear hq HG
    obtain ⟨c0, c1, c2, c3⟩ : w2.cell? ⟨W.heap.size, 0, none⟩ = some (.int .i64 x0) ∧ w2.cell? ⟨W.heap.size, 1, none⟩ = some (.int .i64 x1) ∧ w2.cell? ⟨W.heap.size, 2, none⟩ = some (.int .u64 (x2 : Nat)) ∧ w2.cell? ⟨W.heap.size, 3, none⟩ = some (.slice A k cp) := ⟨HBX.out.cell 0, HBX.out.cell 1, HBX.out.cell 2, HBX.out.cell 3⟩
    have hP := mput_any x0 x1 x2 A k cp R w2 HR.out HK.out (by omega) (by omega) HX2.out
    unfold MfPutEnd manV at hP
    have HVAL := Lib.hid (fun W' (h : LvsHas W' (.slice A k cp) R) => mval_any x0 x1 x2 A k cp R W' h (by omega) (by omega))
    unfold manV at HVAL
    clear hfew hfl hL
    by_cases hm : MayM ⟨x0, x1, x2, R⟩
    case neg =>
      obtain ⟨r1, r2⟩ := mf_no hm
      rw [r1, r2] at hP
      rw [show mayM ⟨x0, x1, x2, R⟩ = false from decide_eq_false hm] at HVAL
      have HP := Lib.hid hP
      clear hP r1 r2 hm
      go_wp2_with fail
      refine HP.out.mono ?_
      rintro e w3 ⟨rfl, hb3⟩
      have d := mblok_below HBX.out hb3
      obtain ⟨d0, d1, d2, d3⟩ : w3.cell? ⟨W.heap.size, 0, none⟩ = some (.int .i64 x0) ∧ w3.cell? ⟨W.heap.size, 1, none⟩ = some (.int .i64 x1) ∧ w3.cell? ⟨W.heap.size, 2, none⟩ = some (.int .u64 (x2 : Nat)) ∧ w3.cell? ⟨W.heap.size, 3, none⟩ = some (.slice A k cp) := ⟨d.cell 0, d.cell 1, d.cell 2, d.cell 3⟩
      have HV := Lib.hid (HVAL.out w3 (HR.out.below hb3 (Nat.le_refl _)))
      have HB3 := Lib.hid (bj HB0.out hb3)
      clear hb3 d HP c0 c1 c2 c3 HVAL HBX HR
      go_wp2_with fail
      refine HV.out.mono ?_
      rintro e w4 ⟨rfl, hb4⟩
      have HB4 := Lib.hid (bj HB3.out hb4)
      clear hb4 d0 d1 d2 d3
      go_wp2_with fail
      refine (HS.out _).mono ?_
      rintro e w5 ⟨rfl, hb5⟩
      have HB5 := Lib.hid (bj HB4.out hb5)
      clear hb5
      go_wp2
      go_ret
      exact ⟨rfl, HB5.out⟩
    obtain ⟨r1, r2⟩ := mf_yes hm
    rw [r1, r2] at hP
    have HP := Lib.hid hP
    have HGET := Lib.hid (fun W' => back_get ⟨x0, x1, x2, R⟩ hm HX2.out W')
    have HPUT := Lib.hid (fun A n c j M W' h1 h2 h3 h4 => back_put ⟨x0, x1, x2, R⟩ hm HX2.out A n c j M W' h1 h2 h3 h4)
    have HSAME := Lib.hid (fun A2 n c j M W' (h0 : LvsHas W' (.slice A k cp) R) h1 h2 h3 h4 => back_same ⟨x0, x1, x2, R⟩ A A2 k cp n c j M W' h0 HK.out h1 h2 h3 h4 (by rw [HK.out]; exact HFL.out.2))
    have HV2 := Lib.hid (fun A2 n c M W' h1 h2 => back_valid ⟨x0, x1, x2, R⟩ hm A2 n c M W' h1 h2)
    have HT5 := Lib.hid (hm.lv_ok.1)
    simp only at HGET HPUT HSAME HV2 HT5
    have ht := ctxt_eq (rfl : mfB ⟨x0, x1, x2, R⟩ = mfB ⟨x0, x1, x2, R⟩)
    clear hP r1 r2 hm HVAL
    generalize mfB ⟨x0, x1, x2, R⟩ = T at *
    obtain ⟨t1, t2, t3⟩ := ht
    go_wp2_with fail
    refine HP.out.mono ?_
    rintro e w3 ⟨rfl, hb3⟩
    have HB3 := Lib.hid hb3
    clear HP c0 c1 c2 c3 hb3
    go_wp2_with fail
    refine (HGET.out _).mono ?_
    rintro e w4 ⟨A2, n, c, M, rfl, hn, hM, hrow, hown, hb4⟩
    have hz2 := HBX.out.lt
    have hz3 := HB3.out.size
    have hz4 := hb4.size
    have hMB : MbAt W #[.int .i64 x0, .int .i64 x1, .int .u64 (x2 : Nat), .slice A k cp] w4.heap.size x0 x1 x2 w3.heap.size A2 n c M (w4.alloc (manO x0 x1 x2 (.slice A2 n c))) :=
      ⟨(bj HB0.out (bj HB3.out hb4)).alloc (bj HB0.out (bj HB3.out hb4)).size _, (mblok_below HBX.out (bj HB3.out hb4)).alloc _, Blok.new w4 25 _, LvRow.alloc hrow _, hown.below ((Below.refl w4.heap.size w4).alloc (Nat.le_refl _) _) (Nat.le_refl _), by omega, by omega, by rw [World.size_alloc]; omega⟩
    have HRW := Lib.hid (fun W' (h : Below W.heap.size W W') => trivial)
    have hR5 : LvsHas (w4.alloc (manO x0 x1 x2 (.slice A2 n c))) (.slice A k cp) R := HR.out.below ((bj HB3.out hb4).alloc (bj HB3.out hb4).size _) (Nat.le_refl _)
    obtain ⟨g7, hg7⟩ : ∃ g7, g7 = w4.heap.size := ⟨_, rfl⟩
    obtain ⟨w5, hw5⟩ : ∃ w5, w5 = w4.alloc (manO x0 x1 x2 (.slice A2 n c)) := ⟨_, rfl⟩
    rw [← hg7, ← hw5] at hMB
    rw [← hw5] at hR5
    have HMB := Lib.hid hMB
    have HR5 := Lib.hid hR5
    have HW5 := Lib.hid hw5
    have HG7 := Lib.hid hg7
    have HN := Lib.hid hn
    have HMM := Lib.hid hM
    have hn5 : n ≤ 5 := by have := HT5.out; have h2 := congrArg List.length hM; rw [lvl_length, ← hn] at h2; omega
    clear HGET hMB hR5 hw5 hg7 hn hM hrow hown hb4 HRW hz2 hz3 hz4 HBX HR HB3
    have K1 := Lib.hid (HSAME.out A2 n c 0 M w5 HR5.out HMB.out.has HN.out (by rw [HMM.out]; simp) hn5)
    go_upto_region 7 with fail
    rw [← HW5.out, ← HG7.out]
    clear HW5 HG7
    have xa0 : w5.cell? ⟨W.heap.size, 0, none⟩ = some (.int .i64 x0) := HMB.out.box.cell 0
    have xa1 : w5.cell? ⟨W.heap.size, 1, none⟩ = some (.int .i64 x1) := HMB.out.box.cell 1
    have xa2 : w5.cell? ⟨W.heap.size, 2, none⟩ = some (.int .u64 (x2 : Nat)) := HMB.out.box.cell 2
    have xa3 : w5.cell? ⟨W.heap.size, 3, none⟩ = some (.slice A k cp) := HMB.out.box.cell 3
    obtain ⟨ya0, ya1, ya2, ya3, ya4⟩ := HMB.out.cells
    go_wp2_with fail
    refine K1.out.mono ?_
    rintro e w6 ⟨rfl, hb6⟩
    have MB6 := Lib.hid (HMB.out.below hb6)
    have HR6 := Lib.hid (HR5.out.below hb6 (Nat.le_refl _))
    have K2 := Lib.hid (HV2.out A2 n c M w6 MB6.out.has HMM.out)
    clear hb6 xa0 xa1 xa2 xa3 ya0 ya1 ya2 ya3 ya4 K1 HMB HR5
    have xb0 : w6.cell? ⟨W.heap.size, 0, none⟩ = some (.int .i64 x0) := MB6.out.box.cell 0
    have xb1 : w6.cell? ⟨W.heap.size, 1, none⟩ = some (.int .i64 x1) := MB6.out.box.cell 1
    have xb2 : w6.cell? ⟨W.heap.size, 2, none⟩ = some (.int .u64 (x2 : Nat)) := MB6.out.box.cell 2
    have xb3 : w6.cell? ⟨W.heap.size, 3, none⟩ = some (.slice A k cp) := MB6.out.box.cell 3
    obtain ⟨yb0, yb1, yb2, yb3, yb4⟩ := MB6.out.cells
    go_wp2_with fail
    refine K2.out.mono ?_
    rintro e w7 ⟨rfl, hb7⟩
    have MB7 := Lib.hid (MB6.out.below hb7)
    clear hb7 xb0 xb1 xb2 xb3 yb0 yb1 yb2 yb3 yb4 K2 MB6 HR6 HV2
    obtain ⟨r, hr⟩ : ∃ r, r = b % 5 := ⟨_, rfl⟩
    have hr1 : (b : Int).tmod 5 = (r : Int) := by rw [hr]; rfl
    have hr2 : (b : Int) % 5 = (r : Int) := by rw [hr]; rfl
    have hr5 : r < 5 := by omega
    clear hr
    go_wp2
    go_loopg [9] r (fun g i wr => ∃ (j : Nat) (A6 : Option Addr) (c6 : Nat) (M6 : List LvS), j + g = r ∧ i = .int .i64 j ∧ MbAt W #[.int .i64 x0, .int .i64 x1, .int .u64 (x2 : Nat), .slice A k cp] g7 x0 x1 x2 w3.heap.size A6 (n + j) c6 M6 wr ∧ n + j = M6.length ∧ lvl M6 = trimL R ++ List.replicate j [] ∧ n + j ≤ 5)
    case atStart => exact ⟨0, A2, c, M, by omega, rfl, MB7.out, HN.out, by rw [HMM.out]; simp, hn5⟩
    case round =>
      obtain ⟨j, A6, c6, M6, hjg, rfl, hMB, hJ, hL6, hn6⟩ := hrel
      clear MB7
      have HM6 := Lib.hid hMB
      have HJ6 := Lib.hid hJ
      have HL6 := Lib.hid hL6
      have HR6 := Lib.hid (HR0.out.below hMB.bel (Nat.le_refl _))
      have HN5 := Lib.hid hn6
      clear hMB hJ hL6
      by_cases hjr : j < r
      case neg =>
        obtain rfl : j = r := by omega
        have t1 : decide ((j : Int) < (j : Int)) = false := decide_eq_false (by omega)
        have t2 : decide (j < j) = false := decide_eq_false (by omega)
        clear hjg hjr
        have K1 := Lib.hid (HPUT.out A6 (n + j) c6 j M6 wr HM6.out.has HJ6.out HL6.out HN5.out)
        have xa0 : wr.cell? ⟨W.heap.size, 0, none⟩ = some (.int .i64 x0) := HM6.out.box.cell 0
        have xa1 : wr.cell? ⟨W.heap.size, 1, none⟩ = some (.int .i64 x1) := HM6.out.box.cell 1
        have xa2 : wr.cell? ⟨W.heap.size, 2, none⟩ = some (.int .u64 (x2 : Nat)) := HM6.out.box.cell 2
        have xa3 : wr.cell? ⟨W.heap.size, 3, none⟩ = some (.slice A k cp) := HM6.out.box.cell 3
        obtain ⟨ya0, ya1, ya2, ya3, ya4⟩ := HM6.out.cells
        go_wp2_with fail
        refine K1.out.mono ?_
        rintro e w8 ⟨rfl, hb8'⟩
        have MB8 := Lib.hid (HM6.out.below hb8')
        have HR8 := Lib.hid (HR6.out.below hb8' (Nat.le_refl _))
        have K2 := Lib.hid (HSAME.out A6 (n + j) c6 j M6 w8 HR8.out MB8.out.has HJ6.out HL6.out HN5.out)
        clear hb8' xa0 xa1 xa2 xa3 ya0 ya1 ya2 ya3 ya4 K1
        have xb0 : w8.cell? ⟨W.heap.size, 0, none⟩ = some (.int .i64 x0) := MB8.out.box.cell 0
        have xb1 : w8.cell? ⟨W.heap.size, 1, none⟩ = some (.int .i64 x1) := MB8.out.box.cell 1
        have xb2 : w8.cell? ⟨W.heap.size, 2, none⟩ = some (.int .u64 (x2 : Nat)) := MB8.out.box.cell 2
        have xb3 : w8.cell? ⟨W.heap.size, 3, none⟩ = some (.slice A k cp) := MB8.out.box.cell 3
        obtain ⟨yb0, yb1, yb2, yb3, yb4⟩ := MB8.out.cells
        go_wp2_with fail
        refine K2.out.mono ?_
        rintro e w9 ⟨rfl, hb9⟩
        have HB9 := Lib.hid (bj MB8.out.bel hb9)
        clear hb9 xb0 xb1 xb2 xb3 yb0 yb1 yb2 yb3 yb4 K2
        go_wp2_with fail
        refine (HS.out _).mono ?_
        rintro e w10 ⟨rfl, hb10⟩
        have HB10 := Lib.hid (bj HB9.out hb10)
        clear hb10
        go_wp2
        go_ret
        exact ⟨rfl, HB10.out⟩
      have t1 : decide ((j : Int) < (r : Int)) = true := decide_eq_true (by omega)
      have t1' : (j : Int) < (r : Int) := by omega
      by_cases hn5' : n + j < 5
      case neg =>
        have t3 : decide ((n : Int) + (j : Int) < 5) = false := decide_eq_false (by omega)
        have t4 : decide (n + j < 5) = false := decide_eq_false (by omega)
        clear hjg
        have K1 := Lib.hid (HPUT.out A6 (n + j) c6 j M6 wr HM6.out.has HJ6.out HL6.out HN5.out)
        have xa0 : wr.cell? ⟨W.heap.size, 0, none⟩ = some (.int .i64 x0) := HM6.out.box.cell 0
        have xa1 : wr.cell? ⟨W.heap.size, 1, none⟩ = some (.int .i64 x1) := HM6.out.box.cell 1
        have xa2 : wr.cell? ⟨W.heap.size, 2, none⟩ = some (.int .u64 (x2 : Nat)) := HM6.out.box.cell 2
        have xa3 : wr.cell? ⟨W.heap.size, 3, none⟩ = some (.slice A k cp) := HM6.out.box.cell 3
        obtain ⟨ya0, ya1, ya2, ya3, ya4⟩ := HM6.out.cells
        go_wp2_with fail
        refine K1.out.mono ?_
        rintro e w8 ⟨rfl, hb8'⟩
        have MB8 := Lib.hid (HM6.out.below hb8')
        have HR8 := Lib.hid (HR6.out.below hb8' (Nat.le_refl _))
        have K2 := Lib.hid (HSAME.out A6 (n + j) c6 j M6 w8 HR8.out MB8.out.has HJ6.out HL6.out HN5.out)
        clear hb8' xa0 xa1 xa2 xa3 ya0 ya1 ya2 ya3 ya4 K1
        have xb0 : w8.cell? ⟨W.heap.size, 0, none⟩ = some (.int .i64 x0) := MB8.out.box.cell 0
        have xb1 : w8.cell? ⟨W.heap.size, 1, none⟩ = some (.int .i64 x1) := MB8.out.box.cell 1
        have xb2 : w8.cell? ⟨W.heap.size, 2, none⟩ = some (.int .u64 (x2 : Nat)) := MB8.out.box.cell 2
        have xb3 : w8.cell? ⟨W.heap.size, 3, none⟩ = some (.slice A k cp) := MB8.out.box.cell 3
        obtain ⟨yb0, yb1, yb2, yb3, yb4⟩ := MB8.out.cells
        go_wp2_with fail
        refine K2.out.mono ?_
        rintro e w9 ⟨rfl, hb9⟩
        have HB9 := Lib.hid (bj MB8.out.bel hb9)
        clear hb9 xb0 xb1 xb2 xb3 yb0 yb1 yb2 yb3 yb4 K2
        go_wp2_with fail
        refine (HS.out _).mono ?_
        rintro e w10 ⟨rfl, hb10⟩
        have HB10 := Lib.hid (bj HB9.out hb10)
        clear hb10
        go_wp2
        go_ret
        exact ⟨rfl, HB10.out⟩
      cases gk with
      | zero => omega
      | succ gj =>
        have t3 : decide ((n : Int) + (j : Int) < 5) = true := decide_eq_true (by omega)
        have t4 : decide (n + j < 5) = true := decide_eq_true (by omega)
        have t5 : (n : Int) + (j : Int) < 5 := by omega
        obtain ⟨w9, A9, c9, e1, e2, e3, e4⟩ := HM6.out.more HJ6.out (by omega)
        have HE1 := Lib.hid e1
        have H4 := Lib.hid e4
        have H5 : Hid (n + (j + 1) = (M6 ++ [lvNil]).length) := Lib.hid (by rw [List.length_append, ← HJ6.out]; rfl)
        have H6 : Hid (lvl (M6 ++ [lvNil]) = trimL R ++ List.replicate (j + 1) []) := Lib.hid (by
          unfold lvl at *
          rw [List.map_append, HL6.out, List.append_assoc, List.replicate_succ']
          rfl)
        clear e1 e4
        have xa0 : wr.cell? ⟨W.heap.size, 0, none⟩ = some (.int .i64 x0) := HM6.out.box.cell 0
        have xa1 : wr.cell? ⟨W.heap.size, 1, none⟩ = some (.int .i64 x1) := HM6.out.box.cell 1
        have xa2 : wr.cell? ⟨W.heap.size, 2, none⟩ = some (.int .u64 (x2 : Nat)) := HM6.out.box.cell 2
        have xa3 : wr.cell? ⟨W.heap.size, 3, none⟩ = some (.slice A k cp) := HM6.out.box.cell 3
        obtain ⟨ya0, ya1, ya2, ya3, ya4⟩ := HM6.out.cells
        go_wp2_with (first | (at_builtin; refine wpList_append_two rfl _ _ rfl rfl rfl HE1.out ?_) | fail)
        go_roundg gj
        case measure => omega
        case rel => exact ⟨j + 1, A9, c9, _, by omega, by go_num, H4.out, H5.out, H6.out, by omega⟩
end MfBack
end Go.Proofs.Ytcfidpjhemjbjaa

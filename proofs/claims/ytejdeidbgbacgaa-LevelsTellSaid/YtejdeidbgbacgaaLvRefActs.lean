/- Pick, Add, Replace: the document's. -/
import Derived.Test.YtejdeidbgbacgaaLvRef
import Derived.Test.YtejdeidbgbacgaaLvTold
namespace Go.Proofs.Ytejdeidbgbacgaa
open Go.RowKit Go.Shelf
set_option linter.unusedVariables false
set_option maxRecDepth 100000

set_option maxHeartbeats 1000000 in
theorem rpick_any (v : Value) (R : LvL) (k : Int) (w : World) (h : LvsHas w v R) (hl : R.flatten.length ≤ 100000) (hL : R.length ≤ 100000) :
    Calls Try.prog 11 #[v, .int .i64 k] w (PickEnd w R k) := by
  have HV := Lib.hid (rvalid_any v R w h hl hL)
  cases hv : validL R with
  | false =>
    have HP := pick_told_none (w := w) (pick_two (R := R) (k := k) (Or.inl hv))
    rw [hv] at HV
    clear h hl hL hv
    go_enter Try.func11, Try.ntmps11
    go_wp2_with fail
    refine HV.out.mono ?_
    rintro e w' ⟨rfl, hb⟩
    have HB := Lib.hid hb
    clear hb
    go_wp2
    go_ret2
    exact HP.out _ HB.out
  | true =>
    rw [hv] at HV
    by_cases hk : k < 0 ∨ 4 < k
    · have HP := pick_told_none (w := w) (pick_two (R := R) (k := k) (Or.inr hk))
      clear h hl hL hv
      have hq : (k < 0) ∨ (¬ k < 0 ∧ 4 < k) := by omega
      clear hk
      rcases hq with hq | ⟨hq, hq2⟩
      · go_enter Try.func11, Try.ntmps11
        go_wp2_with fail
        refine HV.out.mono ?_
        rintro e w' ⟨rfl, hb⟩
        have HB := Lib.hid hb
        clear hb
        go_wp2
        go_ret2
        exact HP.out _ HB.out
      · go_enter Try.func11, Try.ntmps11
        go_wp2_with fail
        refine HV.out.mono ?_
        rintro e w' ⟨rfl, hb⟩
        have HB := Lib.hid hb
        clear hb
        go_wp2
        go_ret2
        exact HP.out _ HB.out
    · obtain ⟨j, rfl⟩ : ∃ j : Nat, k = (j : Nat) := ⟨k.toNat, by omega⟩
      have hj : j ≤ 4 := by omega
      have hL5 := (valid_small hv).1
      have q1 : decide (((j : Nat) : Int) < 0) = false := decide_eq_false (by omega)
      have q2 : decide ((4 : Int) < ((j : Nat) : Int)) = false := decide_eq_false (by omega)
      have q3 : ((j : Nat) : Int) < (5 : Int) := by omega
      have HC := Lib.hid (fun W (hW : Below w.heap.size w W) => lwide_any v R W (h.below hW (Nat.le_refl _)) hl hL5)
      have HFR := Lib.hid (fun W W' g (hf : FillAt W g 5 R R.length W') => (hf.rows hL5).at_ (k := j) (by omega))
      unfold WideEnd at HC
      obtain ⟨x, hx⟩ : ∃ x, x = (wideL R).getD j [] := ⟨_, rfl⟩
      rw [← hx] at HFR
      by_cases h0 : x = []
      · have HP := pick_told_none (w := w) (pick_none (k := (j : Nat)) hv (by omega) (by omega) (by rw [Int.toNat_natCast, ← hx, h0]))
        subst h0
        clear h hl hL hv hx hk hL5
        go_enter Try.func11, Try.ntmps11
        go_wp2_with fail
        refine HV.out.mono ?_
        rintro e w' ⟨rfl, hb1⟩
        have HB := Lib.hid hb1
        clear hb1
        go_wp2_with fail
        refine (HC.out _ HB.out).mono ?_
        rintro e w2 ⟨g, rfl, hf⟩
        obtain ⟨A1, c1, d1, -, -⟩ := HFR.out _ _ _ hf
        obtain ⟨M, -, -, -, -, hb2⟩ := hf
        have HB2 := Lib.hid (bj HB.out hb2)
        rw [List.length_nil] at d1
        clear hb2
        go_wp2
        go_ret2
        exact HP.out _ HB2.out
      · have HP := pick_told_some (w := w) (pick_some (k := (j : Nat)) hv (by omega) (by omega) (by rw [Int.toNat_natCast]) (by rw [← hx]; exact h0))
        rw [← hx] at HP
        have hpos := List.length_pos_iff.2 h0
        clear h hl hL hv hk h0 hL5 hx
        obtain ⟨m, hm⟩ : ∃ m, m = x.length := ⟨_, rfl⟩
        rw [← hm] at HP hpos HFR
        have q8 : (((m : Nat) : Int) == 0) = false := beq_eq_false_iff_ne.2 (by omega)
        have q9 : (m == 0) = false := beq_eq_false_iff_ne.2 (by omega)
        clear hm hpos
        go_enter Try.func11, Try.ntmps11
        go_wp2_with fail
        refine HV.out.mono ?_
        rintro e w' ⟨rfl, hb1⟩
        have HB := Lib.hid hb1
        clear hb1
        go_wp2_with fail
        refine (HC.out _ HB.out).mono ?_
        rintro e w2 ⟨g, rfl, hf⟩
        obtain ⟨A1, c1, d1, -, d3⟩ := HFR.out _ _ _ hf
        obtain ⟨M, -, -, -, -, hb2⟩ := hf
        have H5 := Lib.hid (HP.out A1 c1 w2 (IRow.down d3 HB.out.size) (bj HB.out hb2))
        clear hb2 d3
        go_wp2
        go_ret2
        exact H5.out

set_option maxHeartbeats 1000000 in
theorem radd_any (v : Value) (R : LvL) (n : Int) (w : World) (h : LvsHas w v R) (hl : R.flatten.length ≤ 100000) (hL : R.length ≤ 100000) :
    Calls Try.prog 9 #[v, .int .i64 n] w (LvsEnd w (addL R n) (addE R n)) := by
  have HV := Lib.hid (rvalid_any v R w h hl hL)
  have HA := Lib.hid (fun W (hW : Below w.heap.size w W) => rall_any v R W (h.below hW (Nat.le_refl _)) hl hL)
  have HN := Lib.hid (fun W b A c (hr : IRow W b (.slice A R.flatten.length c) R.flatten) => has_any_i (.slice A R.flatten.length c) R.flatten n W (IRow.in_ hr) (by omega))
  unfold IntsOut at HA
  cases hv : validL R with
  | false =>
    obtain ⟨e1, e2⟩ := add_two (R := R) (n := n) (Or.inl hv)
    have HP := lvs_told_none (w := w) e1 e2
    rw [hv] at HV
    clear h hl hL hv e1 e2 HA HN
    generalize addL R n = T at *
    generalize addE R n = E at *
    go_enter Try.func9, Try.ntmps9
    go_wp2_with fail
    refine HV.out.mono ?_
    rintro e w' ⟨rfl, hb⟩
    have HB := Lib.hid hb
    clear hb
    go_wp2
    go_ret2
    exact HP.out _ HB.out
  | true =>
    rw [hv] at HV
    by_cases hn : n < 0
    · obtain ⟨e1, e2⟩ := add_two (R := R) (n := n) (Or.inr (Or.inl hn))
      have HP := lvs_told_none (w := w) e1 e2
      have q1 : decide (n < 0) = true := decide_eq_true hn
      clear h hl hL hv e1 e2 HA HN
      generalize addL R n = T at *
      generalize addE R n = E at *
      go_enter Try.func9, Try.ntmps9
      go_wp2_with fail
      refine HV.out.mono ?_
      rintro e w' ⟨rfl, hb⟩
      have HB := Lib.hid hb
      clear hb
      go_wp2
      go_ret2
      exact HP.out _ HB.out
    · have q1 : decide (n < 0) = false := decide_eq_false hn
      by_cases hnm : n ∈ R.flatten
      · obtain ⟨e1, e2⟩ := add_two (R := R) (n := n) (Or.inr (Or.inr hnm))
        have HP := lvs_told_none (w := w) e1 e2
        rw [decide_eq_true hnm] at HN
        clear h hl hL hv e1 e2 hn hnm
        generalize addL R n = T at *
        generalize addE R n = E at *
        generalize R.flatten = l at *
        go_enter Try.func9, Try.ntmps9
        go_wp2_with fail
        refine HV.out.mono ?_
        rintro e w' ⟨rfl, hb⟩
        have HB := Lib.hid hb
        clear hb
        go_wp2_with fail
        refine (HA.out _ HB.out).mono ?_
        rintro e w2 ⟨A2, c2, rfl, h2, hb⟩
        have HN2 := Lib.hid (HN.out _ _ _ _ h2)
        have HB2 := Lib.hid (bj HB.out hb)
        clear hb h2
        go_wp2_with fail
        refine HN2.out.mono ?_
        rintro e w3 ⟨rfl, rfl⟩
        go_wp2
        go_ret2
        exact HP.out _ HB2.out
      · rw [decide_eq_false hnm] at HN
        by_cases h40 : R.flatten.length = 40
        · obtain ⟨e1, e2⟩ := add_full hv (by omega) hnm h40
          have HP := lvs_told_none (w := w) e1 e2
          rw [h40] at HA HN
          clear h hl hL hv e1 e2 hn hnm h40
          generalize addL R n = T at *
          generalize addE R n = E at *
          generalize R.flatten = l at *
          go_enter Try.func9, Try.ntmps9
          go_wp2_with fail
          refine HV.out.mono ?_
          rintro e w' ⟨rfl, hb⟩
          have HB := Lib.hid hb
          clear hb
          go_wp2_with fail
          refine (HA.out _ HB.out).mono ?_
          rintro e w2 ⟨A2, c2, rfl, h2, hb⟩
          have HN2 := Lib.hid (HN.out _ _ _ _ h2)
          have HB2 := Lib.hid (bj HB.out hb)
          clear hb h2
          go_wp2_with fail
          refine HN2.out.mono ?_
          rintro e w3 ⟨rfl, rfl⟩
          go_wp2_with fail
          refine (HA.out _ HB2.out).mono ?_
          rintro e w3 ⟨A3, c3, rfl, -, hb⟩
          have HB3 := Lib.hid (bj HB2.out hb)
          clear hb
          go_wp2
          go_ret2
          exact HP.out _ HB3.out
        · obtain ⟨e1, e2⟩ := add_some hv (by omega) hnm h40
          obtain ⟨hL5, hl40⟩ := valid_small hv
          have HC := Lib.hid (fun W (hW : Below w.heap.size w W) => lwide_any v R W (h.below hW (Nat.le_refl _)) hl hL5)
          have HFR := Lib.hid (fun W W' g (hf : FillAt W g 5 R R.length W') => hf.rows hL5)
          have HG0 := Lib.hid (show ((wideL R).getD 0 []).length ≤ 100000 by
            rw [wideL_getD, List.getD_eq_getElem?_getD]
            cases hx : R[0]? with
            | none => exact Nat.zero_le _
            | some x => have := flat_one hx; exact Nat.le_trans this hl)
          have q3 : (((R.flatten.length : Nat) : Int) == 40) = false := beq_eq_false_iff_ne.2 (by omega)
          have q4 : (R.flatten.length == 40) = false := beq_eq_false_iff_ne.2 h40
          have HE1 := Lib.hid e1
          have HE2 := Lib.hid e2
          unfold WideEnd at HC
          clear h hl hL hv e1 e2 hn hnm h40 hL5 hl40
          generalize R.flatten = l at *
          generalize l.length = m at *
          generalize addL R n = T at *
          generalize addE R n = E at *
          go_enter Try.func9, Try.ntmps9
          go_wp2_with fail
          refine HV.out.mono ?_
          rintro e w' ⟨rfl, hb⟩
          have HB := Lib.hid hb
          clear hb
          go_wp2_with fail
          refine (HA.out _ HB.out).mono ?_
          rintro e w2 ⟨A2, c2, rfl, h2, hb⟩
          have HN2 := Lib.hid (HN.out _ _ _ _ h2)
          have HB2 := Lib.hid (bj HB.out hb)
          clear hb h2
          go_wp2_with fail
          refine HN2.out.mono ?_
          rintro e w3 ⟨rfl, rfl⟩
          go_wp2_with fail
          refine (HA.out _ HB2.out).mono ?_
          rintro e w3 ⟨A3, c3, rfl, -, hb⟩
          have HB3 := Lib.hid (bj HB2.out hb)
          clear hb
          go_wp2_with fail
          refine (HC.out _ HB3.out).mono ?_
          rintro e w4 ⟨g, rfl, hfill⟩
          obtain ⟨A0, m0, c0, A4, c4, w5, a1, a2, ⟨u, a3⟩, a4, a5⟩ := (HFR.out _ _ _ hfill).put (k := 0) (by omega) HG0.out n 25
          have HT := Lib.hid a5.ltrim
          have HA2 := Lib.hid a2
          rw [← HE2.out] at HT
          clear hfill a2 a5
          go_wp2_with (first | (at_builtin; refine wpList_append_two rfl _ _ rfl rfl rfl HA2.out ?_) | fail)
          refine HT.out.mono ?_
          rintro e w6 ⟨A6, c6, rfl, h6, hb6⟩
          have H6 := Lib.hid (h6.down HB3.out.size)
          have HB6 := Lib.hid (bj HB3.out hb6)
          have HE3 := Lib.hid (show LvsEnd w T E (.returned (.tuple #[.slice A6 T.length c6, .int .i64 0])) w6 from ⟨A6, c6, by rw [HE1.out], H6.out, HB6.out⟩)
          clear h6 hb6
          go_wp2
          go_ret2
          exact HE3.out
end Go.Proofs.Ytejdeidbgbacgaa

/- Pick, Add, Replace: the program's. -/
import Derived.Test.YtejdeidbgbacgaaLvTold
import Derived.Test.YtejdeidbgbacgaaLvOwn
namespace Go.Proofs.Ytejdeidbgbacgaa
open Go.RowKit Go.Shelf
set_option linter.unusedVariables false
set_option maxRecDepth 100000

set_option maxHeartbeats 1000000 in
theorem lpick_any (v : Value) (R : LvL) (k : Int) (w : World) (h : LvsHas w v R) (hl : R.flatten.length ≤ 100000) (hL : R.length ≤ 100000) :
    Calls Try.prog 10 #[v, .int .i64 k] w (PickEnd w R k) := by
  have HV := Lib.hid (lvalid_any v R w h hl hL)
  cases hv : validL R with
  | false =>
    have HP := pick_told_none (w := w) (pick_two (R := R) (k := k) (Or.inl hv))
    rw [hv] at HV
    clear h hl hL hv
    go_enter Try.func10, Try.ntmps10
    go_wp2_with fail
    refine HV.out.mono ?_
    rintro e w' ⟨rfl, hb⟩
    have HB := Lib.hid hb
    clear hb
    go_wp2
    go_ret2
    exact HP.out _ HB.out
  | true =>
    rw [hv] at HV
    by_cases hk : k < 0 ∨ 4 < k
    · have HP := pick_told_none (w := w) (pick_two (R := R) (k := k) (Or.inr hk))
      clear h hl hL hv
      have hq : (k < 0) ∨ (¬ k < 0 ∧ 5 ≤ k) := by omega
      clear hk
      rcases hq with hq | ⟨hq, hq2⟩
      · go_enter Try.func10, Try.ntmps10
        go_wp2_with fail
        refine HV.out.mono ?_
        rintro e w' ⟨rfl, hb⟩
        have HB := Lib.hid hb
        clear hb
        go_wp2
        go_ret2
        exact HP.out _ HB.out
      · go_enter Try.func10, Try.ntmps10
        go_wp2_with fail
        refine HV.out.mono ?_
        rintro e w' ⟨rfl, hb⟩
        have HB := Lib.hid hb
        clear hb
        go_wp2
        go_ret2
        exact HP.out _ HB.out
    · obtain ⟨j, rfl⟩ : ∃ j : Nat, k = (j : Nat) := ⟨k.toNat, by omega⟩
      have hj : j ≤ 4 := by omega
      have hgd : (wideL R).getD ((j : Nat) : Int).toNat [] = R.getD j [] := by rw [Int.toNat_natCast, wideL_getD]
      have q1 : decide (((j : Nat) : Int) < 0) = false := decide_eq_false (by omega)
      have q2 : decide ((5 : Int) ≤ ((j : Nat) : Int)) = false := decide_eq_false (by omega)
      have q3 : ¬ (5 : Int) ≤ ((j : Nat) : Int) := by omega
      obtain ⟨A, off, cap, rfl, -, hc⟩ := h.form
      rcases Nat.lt_or_ge j R.length with hlt | hge
      · obtain ⟨x, hx⟩ : ∃ x, R[j]? = some x := ⟨_, List.getElem?_eq_getElem hlt⟩
        obtain ⟨b, u, rfl, hb, c1, hin⟩ := hc j x hx
        have hxl := flat_one hx
        have hgx : R.getD j [] = x := by rw [List.getD_eq_getElem?_getD, hx]; rfl
        rw [hgx] at hgd
        have q4 : decide (((R.length : Nat) : Int) ≤ ((j : Nat) : Int)) = false := decide_eq_false (by omega)
        have q5 : decide (R.length ≤ j) = false := decide_eq_false (by omega)
        have q6 : ((j : Nat) : Int) < ((R.length : Nat) : Int) := by omega
        by_cases h0 : x = []
        · subst h0
          have HP := pick_told_none (w := w) (pick_none (k := (j : Nat)) hv (by omega) (by omega) hgd)
          obtain ⟨A2, o2, c2, rfl, -, -⟩ := hin.form
          have q7 : ((([] : List Int).length : Nat) : Int) = 0 := rfl
          clear h hl hL hv hc hx hin hgx hgd hxl hk
          generalize R.length = n at *
          go_enter Try.func10, Try.ntmps10
          go_wp2_with fail
          refine HV.out.mono ?_
          rintro e w' ⟨rfl, hb1⟩
          have HB := Lib.hid hb1
          have d1 := (hb1.cell (p := ⟨b, off + j, none⟩) hb).trans c1
          rw [List.length_nil] at d1
          clear hb1 c1
          go_wp2
          go_ret2
          exact HP.out _ HB.out
        · have HP := pick_told_some (w := w) (pick_some (k := (j : Nat)) hv (by omega) (by omega) hgd h0)
          have HCL := Lib.hid (fun W (hB : Below w.heap.size w W) => iclone_any u x W (hin.below hB (Nat.le_refl _)) (by omega))
          have hpos := List.length_pos_iff.2 h0
          obtain ⟨A2, o2, c2, rfl, -, -⟩ := hin.form
          unfold IntsOut at HCL
          clear h hl hL hv hc hx hin hgx hgd hk h0
          generalize R.length = n at *
          obtain ⟨m, hm⟩ : ∃ m, m = x.length := ⟨_, rfl⟩
          rw [← hm] at HP HCL hpos c1
          have q8 : (((m : Nat) : Int) == 0) = false := beq_eq_false_iff_ne.2 (by omega)
          have q9 : (m == 0) = false := beq_eq_false_iff_ne.2 (by omega)
          clear hm hpos
          go_enter Try.func10, Try.ntmps10
          go_wp2_with fail
          refine HV.out.mono ?_
          rintro e w' ⟨rfl, hb1⟩
          have HB := Lib.hid hb1
          have d1 := (hb1.cell (p := ⟨b, off + j, none⟩) hb).trans c1
          clear hb1 c1
          go_wp2_with fail
          refine (HCL.out _ HB.out).mono ?_
          rintro e w2 ⟨A3, c3, rfl, h3, h4⟩
          have H5 := Lib.hid (HP.out A3 c3 w2 (IRow.down h3 HB.out.size) (bj HB.out h4))
          clear h3 h4
          go_wp2
          go_ret2
          exact H5.out
      · have hge2 : R.getD j [] = [] := by rw [List.getD_eq_getElem?_getD, List.getElem?_eq_none hge]; rfl
        rw [hge2] at hgd
        have HP := pick_told_none (w := w) (pick_none (k := (j : Nat)) hv (by omega) (by omega) hgd)
        have q4 : decide (((R.length : Nat) : Int) ≤ ((j : Nat) : Int)) = true := decide_eq_true (by omega)
        have q5 : decide (R.length ≤ j) = true := decide_eq_true hge
        clear h hl hL hv hc hge2 hgd hk
        generalize R.length = n at *
        go_enter Try.func10, Try.ntmps10
        go_wp2_with fail
        refine HV.out.mono ?_
        rintro e w' ⟨rfl, hb⟩
        have HB := Lib.hid hb
        clear hb
        go_wp2
        go_ret2
        exact HP.out _ HB.out

set_option maxHeartbeats 1000000 in
theorem ladd_any (v : Value) (R : LvL) (n : Int) (w : World) (h : LvsHas w v R) (hl : R.flatten.length ≤ 100000) (hL : R.length ≤ 100000) :
    Calls Try.prog 8 #[v, .int .i64 n] w (LvsEnd w (addL R n) (addE R n)) := by
  have HV := Lib.hid (lvalid_any v R w h hl hL)
  have HM := Lib.hid (fun W (hW : Below w.heap.size w W) => comes_any v R n W (h.below hW (Nat.le_refl _)) hl hL)
  have HA := Lib.hid (fun W (hW : Below w.heap.size w W) => lall_any v R W (h.below hW (Nat.le_refl _)) hl hL)
  cases hv : validL R with
  | false =>
    obtain ⟨e1, e2⟩ := add_two (R := R) (n := n) (Or.inl hv)
    have HP := lvs_told_none (w := w) e1 e2
    rw [hv] at HV
    clear h hl hL hv e1 e2 HM HA
    generalize addL R n = T at *
    generalize addE R n = E at *
    go_enter Try.func8, Try.ntmps8
    go_wp2_with fail
    refine HV.out.mono ?_
    rintro e w' ⟨rfl, hb⟩
    have HB := Lib.hid hb
    clear hb
    go_wp2
    go_ret2
    exact HP.out _ HB.out
  | true =>
    rw [hv] at HV
    by_cases hn : n < 0 ∨ n ∈ R.flatten
    · obtain ⟨e1, e2⟩ := add_two (R := R) (n := n) (Or.inr hn)
      have HP := lvs_told_none (w := w) e1 e2
      have hf : (decide (0 ≤ n) && !decide (n ∈ R.flatten)) = false := by
        rcases hn with hn | hn
        · rw [decide_eq_false (by omega : ¬ 0 ≤ n)]; rfl
        · rw [decide_eq_true hn]; simp
      rw [hf] at HM
      clear h hl hL hv e1 e2 HA hn hf
      generalize addL R n = T at *
      generalize addE R n = E at *
      go_enter Try.func8, Try.ntmps8
      go_wp2_with fail
      refine HV.out.mono ?_
      rintro e w' ⟨rfl, hb⟩
      have HB := Lib.hid hb
      clear hb
      go_wp2_with fail
      refine (HM.out _ HB.out).mono ?_
      rintro e w2 ⟨rfl, hb⟩
      have HB2 := Lib.hid (bj HB.out hb)
      clear hb
      go_wp2
      go_ret2
      exact HP.out _ HB2.out
    · have hn0 : 0 ≤ n := by omega
      have hnm : n ∉ R.flatten := fun e => hn (Or.inr e)
      have hf : (decide (0 ≤ n) && !decide (n ∈ R.flatten)) = true := by rw [decide_eq_true hn0, decide_eq_false hnm]; rfl
      rw [hf] at HM
      unfold IntsOut at HA
      by_cases h40 : R.flatten.length = 40
      · obtain ⟨e1, e2⟩ := add_full hv hn0 hnm h40
        have HP := lvs_told_none (w := w) e1 e2
        rw [h40] at HA
        clear h hl hL hv e1 e2 hn hf hn0 hnm h40
        generalize addL R n = T at *
        generalize addE R n = E at *
        go_enter Try.func8, Try.ntmps8
        go_wp2_with fail
        refine HV.out.mono ?_
        rintro e w' ⟨rfl, hb⟩
        have HB := Lib.hid hb
        clear hb
        go_wp2_with fail
        refine (HM.out _ HB.out).mono ?_
        rintro e w2 ⟨rfl, hb⟩
        have HB2 := Lib.hid (bj HB.out hb)
        clear hb
        go_wp2_with fail
        refine (HA.out _ HB2.out).mono ?_
        rintro e w3 ⟨A3, c3, rfl, -, hb⟩
        have HB3 := Lib.hid (bj HB2.out hb)
        clear hb
        go_wp2
        go_ret2
        exact HP.out _ HB3.out
      · obtain ⟨e1, e2⟩ := add_some hv hn0 hnm h40
        obtain ⟨hL5, hl40⟩ := valid_small hv
        have HC := Lib.hid (fun W (hW : Below w.heap.size w W) => copied_any v R W (h.below hW (Nat.le_refl _)) hl hL5)
        have HFR := Lib.hid (fun W W' g (hf : FillAt W g 5 R R.length W') => hf.rows hL5)
        have HG0 := Lib.hid (show ((wideL R).getD 0 []).length ≤ 100000 by
          rw [wideL_getD, List.getD_eq_getElem?_getD]
          cases hx : R[0]? with
          | none => exact Nat.zero_le _
          | some x => have := flat_one hx; exact Nat.le_trans this hl)
        have q1 : (((R.flatten.length : Nat) : Int) == 40) = false := beq_eq_false_iff_ne.2 (by omega)
        have q2 : (R.flatten.length == 40) = false := beq_eq_false_iff_ne.2 h40
        have HE1 := Lib.hid e1
        have HE2 := Lib.hid e2
        unfold WideEnd at HC
        clear h hl hL hv e1 e2 hn hf hn0 hnm h40 hL5 hl40
        generalize R.flatten = l at *
        generalize l.length = m at *
        generalize addL R n = T at *
        generalize addE R n = E at *
        go_enter Try.func8, Try.ntmps8
        go_wp2_with fail
        refine HV.out.mono ?_
        rintro e w' ⟨rfl, hb⟩
        have HB := Lib.hid hb
        clear hb
        go_wp2_with fail
        refine (HM.out _ HB.out).mono ?_
        rintro e w2 ⟨rfl, hb⟩
        have HB2 := Lib.hid (bj HB.out hb)
        clear hb
        go_wp2_with fail
        refine (HA.out _ HB2.out).mono ?_
        rintro e w3 ⟨A3, c3, rfl, -, hb⟩
        have HB3 := Lib.hid (bj HB2.out hb)
        clear hb
        go_wp2_with fail
        refine (HC.out _ HB3.out).mono ?_
        rintro e w4 ⟨g, rfl, hfill⟩
        obtain ⟨A0, m0, c0, A4, c4, w5, a1, a2, ⟨u, a3⟩, a4, a5⟩ := (HFR.out _ _ _ hfill).put (k := 0) (by omega) HG0.out n 25
        have HT := Lib.hid a5.trimmed
        have HA2 := Lib.hid a2
        rw [← HE2.out] at HT
        clear hfill a2 a5
        go_wp2_with (first | (at_builtin; refine wpList_append_two rfl _ _ rfl rfl rfl HA2.out ?_) | fail)
        refine HT.out.mono ?_
        rintro e w6 ⟨A6, c6, rfl, h6, hb6⟩
        have H6 := Lib.hid (h6.down HB3.out.size)
        have HB6 := Lib.hid (bj HB3.out hb6)
        have HE3 := Lib.hid (show LvsEnd w T E (.returned (.tuple #[.slice A6 T.length c6, .int .i64 0])) w6 from ⟨A6, c6, by rw [HE1.out], H6.out, HB6.out⟩)
        clear h6 hb6
        go_wp2
        go_ret2
        exact HE3.out
end Go.Proofs.Ytejdeidbgbacgaa

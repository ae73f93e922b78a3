/- BatchesGet and BatchesForm over what the program's batches answer. -/
import Derived.Test.YtnefofcofccmfaaBatched
namespace Go.Proofs.Ytnefofcofccmfaa
open Go.RowKit
set_option linter.unusedVariables false
attribute [local go_sem] run_store_float

theorem got_in {w : World} {s : ByteArray} {u : Value} (hs : s.size ≤ 100000) (h : EvsIn w u (bgL s)) : BatIn w (bgS s) (bgF s) u (bgL s) := by
  cases ho : bgOk s with
  | false =>
    obtain ⟨e1, e2, e3, _⟩ := bg_no ho
    rw [e3] at h
    rw [e1, e2, e3]
    exact ⟨by decide, by decide, h, by decide, fun x hx => by cases hx⟩
  | true =>
    obtain ⟨q1, q2, q3⟩ := bg_put ho
    obtain ⟨h1, h2, h3, h4, h5, h6, h7⟩ := bchk_zero.1 q1
    exact ⟨by omega, WalkArith.wf_i64 (by omega), h, by omega, fun x hx => evSz_of (q3 x hx)⟩

theorem bget_great (api : BatApi) (s : ByteArray) (w : World) (hs : s.size ≤ maxLen) (h : 3000 < s.size) :
    Calls Try.prog 4 #[.string s] w fun e w' => e = .returned (.bool true) ∧ Below w.heap.size w w' := by
  unfold maxLen at hs
  go_enter Try.func4, Try.ntmps4
  go_wp2_with fail
  refine (batched_true api _).mono ?_
  rintro e w1 ⟨rfl, hb1⟩
  go_wp2
  go_ret
  exact ⟨rfl, hb1⟩

set_option maxHeartbeats 1600000 in
set_option maxRecDepth 100000 in
theorem bget_walk (api : BatApi) (s : ByteArray) (w : World) (hs : s.size ≤ maxLen) :
    Calls Try.prog 4 #[.string s] w fun e w' => e = .returned (.bool true) ∧ Below w.heap.size w w' := by
  by_cases h : 3000 < s.size
  · exact bget_great api s w hs h
  have H1 := Lib.hid fun W => api.get s W (by omega)
  have H2 := Lib.hid fun W => bget_ref s W (by omega)
  have HI := Lib.hid fun W u => got_in (w := W) (s := s) (u := u) (by omega)
  have HS := Lib.hid fun u u' W h h' => bsame_ref (bgS s) (bgF s) u (bgL s) (bgS s) (bgF s) u' (bgL s) W h h'
  rw [bEq_self] at HS
  unfold GotBat batV at H1 H2
  unfold batV at HS
  have e1 : (bgE s == bgE s) = true := by simp
  generalize bgS s = S at *
  generalize bgF s = F at *
  generalize bgL s = L at *
  generalize bgE s = E at *
  have hs' : ¬ (3000 : Int) < (s.size : Int) := by omega
  go_enter Try.func4, Try.ntmps4
  go_wp2_with fail
  refine (H1.out _).mono ?_
  rintro e w1 ⟨u1, rfl, hu1, hb1⟩
  obtain ⟨A1, c1, rfl⟩ := hu1.form
  have C1 := Blk3.new w1 28 (.string S) (.int .i64 F) (.slice A1 L.length c1)
  have hu2 := hu1.below ((Below.refl _ w1).alloc (Nat.le_refl _) (.cells #[.string S, .int .i64 F, .slice A1 L.length c1] 28)) (Nat.le_refl _)
  have hb2 := hb1.alloc hb1.size (.cells #[.string S, .int .i64 F, .slice A1 L.length c1] 28)
  clear hu1 hb1
  go_wp2_with fail
  refine (H2.out _).mono ?_
  rintro e w2 ⟨u2, rfl, hu3, hb3⟩
  obtain ⟨A2, c2, rfl⟩ := hu3.form
  have hu4 := hu2.below hb3 (Nat.le_refl _)
  have hb4 := bj hb2 hb3
  obtain ⟨k0, k1, k2, _, _, _, kl⟩ := (C1.below hb3).facts
  have X1 := HI.out _ _ (hu4.below ((Below.refl _ w2).alloc (Nat.le_refl _) (.cells #[.string S, .int .i64 F, .slice A2 L.length c2] 28)) (Nat.le_refl _))
  have X2 := HI.out _ _ (hu3.below ((Below.refl _ w2).alloc (Nat.le_refl _) (.cells #[.string S, .int .i64 F, .slice A2 L.length c2] 28)) (Nat.le_refl _))
  have HX := Lib.hid (HS.out _ _ _ X1 X2)
  have hb5 := hb4.alloc hb4.size (.cells #[.string S, .int .i64 F, .slice A2 L.length c2] 28)
  clear C1 hu2 hb2 hb3 hu3 hu4 hb4 X1 X2
  go_wp2_with fail
  refine HX.out.mono ?_
  rintro e w3 ⟨rfl, hb6⟩
  go_wp2_with fail
  refine (batched_true api _).mono ?_
  rintro e w4 ⟨rfl, hb7⟩
  go_wp2
  go_ret
  exact ⟨rfl, bj hb5 (bj hb6 hb7)⟩

set_option maxHeartbeats 1600000 in
set_option maxRecDepth 100000 in
theorem bform_walk (api : BatApi) (s : ByteArray) (w : World) (hs : s.size ≤ maxLen) :
    Calls Try.prog 6 #[.string s] w fun e w' => e = .returned (.bool true) ∧ Below w.heap.size w w' := by
  by_cases h : 3000 < s.size
  · unfold maxLen at hs
    go_enter Try.func6, Try.ntmps6
    go_wp2_with fail
    refine (batched_true api _).mono ?_
    rintro e w1 ⟨rfl, hb1⟩
    go_wp2
    go_ret
    exact ⟨rfl, hb1⟩
  have H1 := Lib.hid fun W => api.get s W (by omega)
  have HI := Lib.hid fun W u => got_in (w := W) (s := s) (u := u) (by omega)
  have hs' : ¬ (3000 : Int) < (s.size : Int) := by omega
  cases ho : bgOk s with
  | false =>
    obtain ⟨x1, x2, x3, x4⟩ := bg_no ho
    have HS := Lib.hid fun u W h => api.same ByteArray.empty 0 u [] ByteArray.empty 0 (.slice none 0 0) [] W h ⟨by decide, by decide, Or.inl ⟨rfl, _, _, rfl⟩, by decide, fun x hx => by cases hx⟩
    rw [bEq_self] at HS
    unfold GotBat at H1
    rw [x1, x2, x3, x4] at H1
    rw [x1, x2, x3] at HI
    unfold batV at H1 HS
    clear x1 x2 x3 x4 ho
    go_enter Try.func6, Try.ntmps6
    go_wp2_with fail
    refine (H1.out _).mono ?_
    rintro e w1 ⟨u1, rfl, hu1, hb1⟩
    obtain ⟨A1, c1, rfl⟩ := evsIn_nil hu1
    have hu2 := hu1.below ((Below.refl _ w1).alloc (Nat.le_refl _) (.cells #[.string ByteArray.empty, .int .i64 0, .slice A1 0 c1] 28)) (Nat.le_refl _)
    have hb2 := hb1.alloc hb1.size (.cells #[.string ByteArray.empty, .int .i64 0, .slice A1 0 c1] 28)
    have HX := Lib.hid (HS.out _ _ (HI.out _ _ hu2))
    clear hu1 hb1 hu2
    go_wp2_with fail
    refine HX.out.mono ?_
    rintro e w3 ⟨rfl, hb6⟩
    go_wp2_with fail
    refine (batched_true api _).mono ?_
    rintro e w4 ⟨rfl, hb7⟩
    go_wp2
    go_ret
    exact ⟨rfl, bj hb2 (bj hb6 hb7)⟩
  | true =>
    obtain ⟨q1, q2, q3⟩ := bg_put ho
    have hE : bgE s = 0 := (bg_yes ho).2.2.2.1
    have hS : batS (bgS s) (bgF s) (bgL s) = s := by unfold batS; rw [if_pos q1, q2]
    have HP := Lib.hid fun u W h => api.put (bgS s) (bgF s) u (bgL s) W h
    have HC := Lib.hid fun u W h => api.check (bgS s) (bgF s) u (bgL s) W h
    rw [hS, q1] at HP
    rw [q1] at HC
    unfold GotBat at H1
    rw [hE] at H1
    unfold batV at H1 HP HC
    have t1 : (s.toList == s.toList) = true := by simp
    clear q1 q2 q3 hE hS ho
    generalize bgS s = S at *
    generalize bgF s = F at *
    generalize bgL s = L at *
    go_enter Try.func6, Try.ntmps6
    go_wp2_with fail
    refine (H1.out _).mono ?_
    rintro e w1 ⟨u1, rfl, hu1, hb1⟩
    obtain ⟨A1, c1, rfl⟩ := hu1.form
    have C1 := Blk3.new w1 28 (.string S) (.int .i64 F) (.slice A1 L.length c1)
    have hu2 := hu1.below ((Below.refl _ w1).alloc (Nat.le_refl _) (.cells #[.string S, .int .i64 F, .slice A1 L.length c1] 28)) (Nat.le_refl _)
    have hb2 := hb1.alloc hb1.size (.cells #[.string S, .int .i64 F, .slice A1 L.length c1] 28)
    have HX := Lib.hid (HP.out _ _ (HI.out _ _ hu2))
    have HU := Lib.hid hu2
    clear hu1 hb1 hu2
    go_wp2_with fail
    refine HX.out.mono ?_
    rintro e w3 ⟨rfl, hb6⟩
    obtain ⟨k0, k1, k2, _, _, _, kl⟩ := (C1.below hb6).facts
    have HY := Lib.hid (HC.out _ _ (HI.out _ _ (HU.out.below hb6 (Nat.le_refl _))))
    have hb7 := bj hb2 hb6
    clear C1 HU hb6 hb2 HX
    go_wp2_with fail
    refine HY.out.mono ?_
    rintro e w5 ⟨rfl, hb8⟩
    go_wp2_with fail
    refine (batched_true api _).mono ?_
    rintro e w4 ⟨rfl, hb9⟩
    go_wp2
    go_ret
    exact ⟨rfl, bj hb7 (bj hb8 hb9)⟩
end Go.Proofs.Ytnefofcofccmfaa

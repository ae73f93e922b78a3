/- Read of events: the document's. -/
import Derived.Test.YtnefofcofccmfaaEventsReadOne
import Derived.Test.YtnefofcofccmfaaEventsOneRef
import Derived.Test.YtnefofcofccmfaaNumsReadRef
import Derived.Test.YtnefofcofccmfaaNumsGetRef
namespace Go.Proofs.Ytnefofcofccmfaa
open Go.RowKit
set_option linter.unusedVariables false
attribute [local go_sem] run_store_float

theorem readr_no_one (s : ByteArray) (w : World) (hs : s.size ≤ maxLen) (h : ¬ 8 ≤ (erL s).size) :
    Calls Try.prog 36 #[.string s] w fun e w' => e = .returned (.tuple #[.agg #[.string ByteArray.empty, .string ByteArray.empty, .float .f64 0], .string ByteArray.empty, .bool false]) ∧ Below w.heap.size w w' := by
  have H1 := Lib.hid fun W => readr_any s W hs
  have H2 := Lib.hid fun W => readr_any (rdB s) W (Nat.le_trans (rdB_size s) hs)
  have hl : (erL s).size < 8 := by omega
  have he : rdB (rdB s) = erL s := rfl
  rw [he] at H2
  have E0 := EvAt.new w ByteArray.empty ByteArray.empty 0
  generalize erL s = L at *
  generalize rdB s = R at *
  generalize rdA s = A at *
  generalize rdOk s = o at *
  generalize rdA R = A2 at *
  generalize rdOk R = o2 at *
  clear he h hs
  cases o <;> cases o2
  all_goals
    go_enter Try.func36, Try.ntmps36
    go_wp2_with fail
    refine (H1.out _).mono ?_
    rintro e w1 ⟨rfl, hb1⟩
    have E1 := E0.below hb1
    go_wp2_with fail
    refine (H2.out _).mono ?_
    rintro e w2 ⟨rfl, hb2⟩
    have E2 := E1.below hb2
    have hbw : Below w.heap.size w w2 := (((Below.refl _ _).alloc (Nat.le_refl _) _).trans (hb1.mono (by simp))).trans (hb2.mono (by have := hb1.size; simp at this; omega))
    have k0 := E2.c0
    have k1 := E2.c1
    have k2 := E2.c2
    have f0 := E2.fz 0
    have f1 := E2.fz 1
    have f2 := E2.fz 2
    clear E0 E1 E2 hb1 hb2
    go_wp2_with fail
    exact bodyPost_ret (v := .tuple #[.agg #[.string ByteArray.empty, .string ByteArray.empty, .float .f64 0], .string ByteArray.empty, .bool false]) (by simp [results, Try.results36, go_sem, k0, k1, k2]; rfl) rfl ⟨rfl, below_set3 hbw _ _ _⟩

theorem get_cut (L : ByteArray) (h : 8 ≤ L.size) (W : World) : Calls Try.prog 35 #[.string (L.extract 0 8)] W fun e w' => e = .returned (.int .u64 (getS L : Nat)) ∧ W = w' := by
  have e : getS (L.extract 0 8) = getS L := by
    unfold getS
    have e : (L.extract 0 8).data.toList = L.data.toList.take 8 := by simp
    rw [e, List.take_take, Nat.min_self]
  have := get_ref (L.extract 0 8) W (by unfold maxLen; rw [ByteArray.size_extract]; omega)
  rw [e] at this
  exact this

theorem readr_no_two (s : ByteArray) (w : World) (hs : s.size ≤ maxLen) (h : 8 ≤ (erL s).size) (hk : ¬ chk (rdA s) (rdA (rdB s)) = 0) :
    Calls Try.prog 36 #[.string s] w fun e w' => e = .returned (.tuple #[.agg #[.string ByteArray.empty, .string ByteArray.empty, .float .f64 0], .string ByteArray.empty, .bool false]) ∧ Below w.heap.size w w' := by
  obtain ⟨o1, o2⟩ := rdOk_two s (by omega)
  have H1 := Lib.hid fun W => readr_any s W hs
  have H2 := Lib.hid fun W => readr_any (rdB s) W (Nat.le_trans (rdB_size s) hs)
  have H3 := Lib.hid (get_cut (erL s) h)
  have hfb := fun b w => frombits_run b w
  have HC := fun b W => check_ref (rdA s) (rdA (rdB s)) b W (Nat.le_trans (rdA_size _) hs) (Nat.le_trans (rdA_size _) (Nat.le_trans (rdB_size s) hs))
  have hlm : (erL s).size ≤ maxLen := Nat.le_trans (rdB_size _) (Nat.le_trans (rdB_size s) hs)
  unfold maxLen at hlm
  have he : rdB (rdB s) = erL s := rfl
  rw [he] at H2
  rw [o1] at H1
  rw [o2] at H2
  have E0 := EvAt.new w ByteArray.empty ByteArray.empty 0
  rcases chk_cases (rdA s) (rdA (rdB s)) with hc | hc | hc
  · exact absurd hc hk
  all_goals
    rw [hc] at HC
    have HC2 := Lib.hid HC
    clear HC hc hk o1 o2
    generalize getS (erL s) = n at *
    generalize erL s = L at *
    generalize rdB s = R at *
    generalize rdA s = A at *
    generalize rdA R = A2 at *
    clear he hs
    go_enter Try.func36, Try.ntmps36
    go_wp2_with fail
    refine (H1.out _).mono ?_
    rintro e w1 ⟨rfl, hb1⟩
    have E1 := E0.below hb1
    go_wp2_with fail
    refine (H2.out _).mono ?_
    rintro e w2 ⟨rfl, hb2⟩
    have E2 := E1.below hb2
    have hbw : Below w.heap.size w w2 := (((Below.refl _ _).alloc (Nat.le_refl _) _).trans (hb1.mono (by simp))).trans (hb2.mono (by have := hb1.size; simp at this; omega))
    have HE2 := Lib.hid (E2.alloc (.cells #[.string A, .string A2, .float .f64 n] 47))
    have HBA := Lib.hid (hbw.alloc hbw.size (.cells #[.string A, .string A2, .float .f64 n] 47))
    clear E0 E1 E2 hb1 hb2 hbw
    go_wp2_with fail
    refine (H3.out _).mono ?_
    rintro e w' ⟨rfl, rfl⟩
    go_wp2_with fail
    refine (HC2.out _ _).mono ?_
    rintro e w3 ⟨rfl, hb3⟩
    have E4 := HE2.out.below hb3
    have hbw4 := bj HBA.out hb3
    clear hb3 HE2 HBA
    have k0 := E4.c0
    have k1 := E4.c1
    have k2 := E4.c2
    have f0 := E4.fz 0
    have f1 := E4.fz 1
    have f2 := E4.fz 2
    clear E4
    go_wp2_with fail
    exact bodyPost_ret (v := .tuple #[.agg #[.string ByteArray.empty, .string ByteArray.empty, .float .f64 0], .string ByteArray.empty, .bool false]) (by simp [results, Try.results36, go_sem, k0, k1, k2]; rfl) rfl ⟨rfl, below_set3 hbw4 _ _ _⟩

theorem readr_yes_one (s : ByteArray) (w : World) (hs : s.size ≤ maxLen) (h : 8 ≤ (erL s).size) (hk : chk (rdA s) (rdA (rdB s)) = 0) :
    Calls Try.prog 36 #[.string s] w fun e w' => e = .returned (.tuple #[.agg #[.string (rdA s), .string (rdA (rdB s)), .float .f64 (getS (erL s))], .string ((erL s).extract 8 (erL s).size), .bool true]) ∧ Below w.heap.size w w' := by
  obtain ⟨o1, o2⟩ := rdOk_two s (by omega)
  have H1 := Lib.hid fun W => readr_any s W hs
  have H2 := Lib.hid fun W => readr_any (rdB s) W (Nat.le_trans (rdB_size s) hs)
  have H3 := Lib.hid (get_cut (erL s) h)
  have hfb := fun b w => frombits_run b w
  have HC := fun b W => check_ref (rdA s) (rdA (rdB s)) b W (Nat.le_trans (rdA_size _) hs) (Nat.le_trans (rdA_size _) (Nat.le_trans (rdB_size s) hs))
  have hlm : (erL s).size ≤ maxLen := Nat.le_trans (rdB_size _) (Nat.le_trans (rdB_size s) hs)
  unfold maxLen at hlm
  have he : rdB (rdB s) = erL s := rfl
  rw [he] at H2
  rw [o1] at H1
  rw [o2] at H2
  have E0 := EvAt.new w ByteArray.empty ByteArray.empty 0
  rw [hk] at HC
  have HC2 := Lib.hid HC
  clear HC hk o1 o2
  generalize getS (erL s) = n at *
  generalize erL s = L at *
  generalize rdB s = R at *
  generalize rdA s = A at *
  generalize rdA R = A2 at *
  clear he hs
  go_enter Try.func36, Try.ntmps36
  go_wp2_with fail
  refine (H1.out _).mono ?_
  rintro e w1 ⟨rfl, hb1⟩
  have E1 := E0.below hb1
  go_wp2_with fail
  refine (H2.out _).mono ?_
  rintro e w2 ⟨rfl, hb2⟩
  have E2 := E1.below hb2
  have hbw : Below w.heap.size w w2 := (((Below.refl _ _).alloc (Nat.le_refl _) _).trans (hb1.mono (by simp))).trans (hb2.mono (by have := hb1.size; simp at this; omega))
  have HE2 := Lib.hid (E2.alloc (.cells #[.string A, .string A2, .float .f64 n] 47))
  have HBA := Lib.hid (hbw.alloc hbw.size (.cells #[.string A, .string A2, .float .f64 n] 47))
  have HEN := Lib.hid (EvAt.new w2 A A2 n)
  clear E0 E1 E2 hb1 hb2 hbw
  go_wp2_with fail
  refine (H3.out _).mono ?_
  rintro e w' ⟨rfl, rfl⟩
  go_wp2_with fail
  refine (HC2.out _ _).mono ?_
  rintro e w3 ⟨rfl, hb3⟩
  have E4 := HE2.out.below hb3
  have E5 := HEN.out.below hb3
  have hbw4 := bj HBA.out hb3
  clear hb3 HE2 HBA HEN
  have k0 := E4.c0
  have k1 := E4.c1
  have k2 := E4.c2
  have f0 := E4.fz 0
  have f1 := E4.fz 1
  have f2 := E4.fz 2
  have j0 := E5.c0
  have j1 := E5.c1
  have j2 := E5.c2
  clear E4 E5
  go_wp2_with fail
  go_region
  all_goals
    go_wp2
    exact bodyPost_ret (v := .tuple #[.agg #[.string A, .string A2, .float .f64 n], .string (L.extract 8 L.size), .bool true]) (by simp [results, Try.results36, go_sem, k0, k1, k2]) rfl ⟨rfl, (below_set3 hbw4 _ _ _).drew⟩

/-- The document's Read. -/
theorem readev_ref (s : ByteArray) (w : World) (hs : s.size ≤ maxLen) :
    Calls Try.prog 36 #[.string s] w fun e w' => e = .returned (.tuple #[.agg #[.string (erT s), .string (erD s), .float .f64 (erW s)], .string (erR s), .bool (erOk s)]) ∧ Below w.heap.size w w' := by
  by_cases h : 8 ≤ (erL s).size
  · by_cases hk : chk (rdA s) (rdA (rdB s)) = 0
    · obtain ⟨e1, e2, e3, e4⟩ := er_yes (er_ok h hk)
      rw [e1, e2, e3, e4, er_ok h hk]
      exact readr_yes_one s w hs h hk
    · obtain ⟨e1, e2, e3, e4⟩ := er_no (er_wrong hk)
      rw [e1, e2, e3, e4, er_wrong hk]
      exact readr_no_two s w hs h hk
  · obtain ⟨e1, e2, e3, e4⟩ := er_no (er_short h)
    rw [e1, e2, e3, e4, er_short h]
    exact readr_no_one s w hs h
end Go.Proofs.Ytnefofcofccmfaa

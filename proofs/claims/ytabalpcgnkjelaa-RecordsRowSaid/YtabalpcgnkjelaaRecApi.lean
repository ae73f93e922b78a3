/- What the program's records answer, as hypotheses; the chapter's examples, and 'stand' of the statements of layer 8, over them. -/
import Derived.Test.YtabalpcgnkjelaaRecBackRef
import Derived.Test.YtabalpcgnkjelaaRecWholeRef
namespace Go.Proofs.Ytabalpcgnkjelaa
open Go.RowKit
set_option linter.unusedVariables false

structure RecApi : Prop where
  put : ∀ (p : ByteArray) (w : World), p.size ≤ maxLen → Calls Try.prog 11 #[.string p] w fun e w' => e = .returned (.tuple #[.string (prS p), .int .i64 (prE p)]) ∧ Below w.heap.size w w'
  get : ∀ (s : ByteArray) (a : Int) (w : World), s.size ≤ 1000000 → (Lit.int .i64 a).wf = true → Calls Try.prog 15 #[.string s, .int .i64 a] w (GotRec s a w)
  back : ∀ (s : ByteArray) (a : Int) (w : World), s.size ≤ 1000000 → (Lit.int .i64 a).wf = true → Calls Try.prog 16 #[.string s, .int .i64 a] w (BackRec s a w)
  whole : ∀ (s : ByteArray) (a : Int) (w : World), s.size ≤ 1000000 → (Lit.int .i64 a).wf = true → Calls Try.prog 17 #[.string s, .int .i64 a] w (WholeRec s a w)

theorem IntsIn.form {w : World} {v : Value} {l : List Int} (h : IntsIn w v l) : ∃ A c, v = .slice A l.length c := by
  obtain ⟨A, off, cap, hv, _⟩ := h.cell
  exact ⟨A, cap, hv⟩

set_option maxHeartbeats 1000000 in
theorem stand_true (api : RecApi) (s : ByteArray) (a : Int) (w : World) (hs : s.size ≤ 1000000) (wa : (Lit.int .i64 a).wf = true) :
    Calls Try.prog 13 #[.string s, .int .i64 a] w fun e w' => e = .returned (.bool true) ∧ Below w.heap.size w w' := by
  have G1 := Lib.hid fun W => api.get s a W hs wa
  have G2 := Lib.hid fun W => grec_ref s a W (by unfold maxLen; omega) wa
  have B1 := Lib.hid fun W => api.back s a W hs wa
  have B2 := Lib.hid fun W => brec_ref s a W (by unfold maxLen; omega) wa
  have W1 := Lib.hid fun W => api.whole s a W hs wa
  have W2 := Lib.hid fun W => wrec_ref s a W hs wa
  unfold GotRec at G1 G2
  unfold BackRec at B1 B2
  unfold WholeRec at W1 W2
  generalize getP s a = gp at *
  generalize getN s a = gn at *
  generalize getOk s a = go at *
  generalize bkP s a = bp at *
  generalize bkA s a = ba at *
  generalize bkOk s a = bo at *
  generalize wlL s a = l at *
  generalize wlE s a = le at *
  have e1 : (gp.toList == gp.toList) = true := by simp
  have e2 : (bp.toList == bp.toList) = true := by simp
  have e3 : ((gn : Int) == (gn : Int)) = true := by simp
  have e4 : ((ba : Int) == (ba : Int)) = true := by simp
  have e5 : ((le : Int) == (le : Int)) = true := by simp
  have e6 : (go == go) = true := by simp
  have e7 : (bo == bo) = true := by simp
  go_enter Try.func13, Try.ntmps13
  go_wp2_with fail
  refine (G1.out _).mono ?_
  rintro e w1 ⟨rfl, hb1⟩
  go_wp2_with fail
  refine (G2.out _).mono ?_
  rintro e w2 ⟨rfl, hb2⟩
  go_wp2_with fail
  refine (B1.out _).mono ?_
  rintro e w3 ⟨rfl, hb3⟩
  go_wp2_with fail
  refine (B2.out _).mono ?_
  rintro e w4 ⟨rfl, hb4⟩
  have b14 := bj hb1 (bj hb2 (bj hb3 hb4))
  clear hb1 hb2 hb3 hb4
  go_wp2_with fail
  refine (W1.out _).mono ?_
  rintro e w5 ⟨u1, rfl, i1, hb5⟩
  obtain ⟨A1, c1, rfl⟩ := i1.form
  have I1 := Lib.hid i1
  clear i1
  go_wp2_with fail
  refine (W2.out _).mono ?_
  rintro e w6 ⟨u2, rfl, i2, hb6⟩
  obtain ⟨A2, c2, rfl⟩ := i2.form
  have I2 := Lib.hid i2
  clear i2
  have b16 := bj b14 (bj hb5 hb6)
  have hi := ints_any _ _ l l w6 (I1.out.below hb6 (Nat.le_refl _)) I2.out
  rw [decide_eq_true rfl] at hi
  have HI := Lib.hid hi
  clear hi
  go_wp2_with fail
  refine HI.out.mono ?_
  rintro e w7 ⟨rfl, n, rfl⟩
  go_wp2
  go_ret
  exact ⟨rfl, below_drewN b16 _⟩
end Go.Proofs.Ytabalpcgnkjelaa

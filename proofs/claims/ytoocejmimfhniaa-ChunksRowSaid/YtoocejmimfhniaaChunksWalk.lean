/- The walks of ChunksScan and ChunksFits, over what the program's chunks answer. -/
import Derived.Test.YtoocejmimfhniaaChunked
namespace Go.Proofs.Ytoocejmimfhniaa
open Go.RowKit
set_option linter.unusedVariables false

set_option maxHeartbeats 1000000 in
theorem scan_walk (api : ChunksApi) (s : ByteArray) (n : Int) (hs : s.size ≤ maxLen) (wn : (Lit.int .i64 n).wf = true) (w : World) : Calls Try.prog 3 #[.string s, .int .i64 n] w fun e w' => e = .returned (.bool true) ∧ Below w.heap.size w w' := by
  have HR := Lib.hid (chunked_true api)
  by_cases h : 5000 < s.size
  · unfold maxLen at hs
    go_enter Try.func3, Try.ntmps3
    go_wp2_with fail
    refine (HR.out _).mono ?_
    rintro e w1 ⟨rfl, hb1⟩
    go_wp2
    go_ret
    exact ⟨rfl, hb1⟩
  · have S1 := Lib.hid fun W => api.scan s n W (by omega) wn
    have S2 := Lib.hid fun W => scan_ref s n W (by omega)
    have H1 := Lib.hid fun W => api.head n W wn
    have H2 := Lib.hid fun W => head_ref n W
    unfold Scanned at S1 S2
    generalize scL s n = l at *
    generalize scE s n = k at *
    generalize scOk s n = b at *
    generalize hdS n = H at *
    have e1 : (H.toList == H.toList) = true := by simp
    have e2 : ((k : Int) == (k : Int)) = true := by simp
    have e3 : (b == b) = true := by simp
    unfold maxLen at hs
    go_enter Try.func3, Try.ntmps3
    go_wp2_with fail
    refine (S1.out _).mono ?_
    rintro e w1 ⟨u1, rfl, i1, hb1⟩
    obtain ⟨A1, c1, rfl⟩ := i1.forms
    have I1 := Lib.hid i1
    clear i1
    go_wp2_with fail
    refine (S2.out _).mono ?_
    rintro e w2 ⟨u2, rfl, i2, hb2⟩
    obtain ⟨A2, c2, rfl⟩ := i2.forms
    have hi := ints_any _ _ l l w2 (I1.out.below hb2 (Nat.le_refl _)) i2
    rw [decide_eq_true rfl] at hi
    have HI := Lib.hid hi
    clear hi i2
    have b12 := bj hb1 hb2
    clear hb1 hb2
    go_wp2_with fail
    refine HI.out.mono ?_
    rintro e w3 ⟨rfl, m, rfl⟩
    have b13 := below_drewN b12 m
    generalize hW : w2.drewN m = w4 at *
    clear hW
    go_wp2_with fail
    refine (H1.out _).mono ?_
    rintro e w5 ⟨rfl, hb5⟩
    go_wp2_with fail
    refine (H2.out _).mono ?_
    rintro e w6 ⟨rfl, hb6⟩
    go_wp2_with fail
    refine (HR.out _).mono ?_
    rintro e w7 ⟨rfl, hb7⟩
    go_wp2
    go_ret
    exact ⟨rfl, bj b13 (bj hb5 (bj hb6 hb7))⟩

theorem wf_rem {n : Int} (hb : -9223372036854775808 ≤ n ∧ n ≤ 9223372036854775807) : (Lit.int .i64 (n.tmod 5000)).wf = true := WalkArith.wf_i64 (by have h1 := Int.tmod_lt_of_pos n (show (0 : Int) < 5000 by omega); have h2 := Int.lt_tmod_of_pos n (show (0 : Int) < 5000 by omega); omega)

set_option maxHeartbeats 1000000 in
theorem fits_walk (api : ChunksApi) (n : Int) (p : ByteArray) (wn : (Lit.int .i64 n).wf = true) (hp : p.size ≤ maxLen) (w : World) : Calls Try.prog 5 #[.int .i64 n, .string p] w fun e w' => e = .returned (.bool true) ∧ Below w.heap.size w w' := by
  have HR := Lib.hid (chunked_true api)
  by_cases h : 3000 < p.size
  · unfold maxLen at hp
    go_enter Try.func5, Try.ntmps5
    go_wp2_with fail
    refine (HR.out _).mono ?_
    rintro e w1 ⟨rfl, hb1⟩
    go_wp2
    go_ret
    exact ⟨rfl, hb1⟩
  · have wm := wf_rem (bounds_i64 wn)
    have F1 := Lib.hid fun W => api.fits n p W hp wn
    have F2 := Lib.hid fun W => fits_ref n p W hp wn
    have F3 := Lib.hid fun W => api.fits (n.tmod 5000) p W hp wm
    have F4 := Lib.hid fun W => fits_ref (n.tmod 5000) p W hp wm
    generalize ftS n p = a at *
    generalize ftS (n.tmod 5000) p = b at *
    have e1 : (a == a) = true := by simp
    have e2 : (b == b) = true := by simp
    unfold maxLen at hp
    go_enter Try.func5, Try.ntmps5
    go_wp2_with fail
    refine (F1.out _).mono ?_
    rintro e w1 ⟨rfl, rfl⟩
    go_wp2_with fail
    refine (F2.out _).mono ?_
    rintro e w2 ⟨rfl, rfl⟩
    go_wp2_with fail
    refine (F3.out _).mono ?_
    rintro e w3 ⟨rfl, rfl⟩
    go_wp2_with fail
    refine (F4.out _).mono ?_
    rintro e w4 ⟨rfl, rfl⟩
    go_wp2_with fail
    refine (HR.out _).mono ?_
    rintro e w5 ⟨rfl, hb5⟩
    go_wp2
    go_ret
    exact ⟨rfl, hb5⟩
end Go.Proofs.Ytoocejmimfhniaa

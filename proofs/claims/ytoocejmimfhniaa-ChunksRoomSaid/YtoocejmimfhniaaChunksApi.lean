/- What the program's chunks (and records.Put) answer, as hypotheses; 'told' of the statements of layer 11 over them. -/
import Derived.Test.YtoocejmimfhniaaChunksRef
import Derived.Test.YtoocejmimfhniaaRecPutRef
import Derived.Test.YtoocejmimfhniaaIntsOnly
namespace Go.Proofs.Ytoocejmimfhniaa
open Go.RowKit
set_option linter.unusedVariables false

structure ChunksApi : Prop where
  head : ∀ (n : Int) (w : World), (Lit.int .i64 n).wf = true → Calls Try.prog 13 #[.int .i64 n] w fun e w' => e = .returned (.string (hdS n)) ∧ Below w.heap.size w w'
  scan : ∀ (s : ByteArray) (n : Int) (w : World), s.size ≤ 1000000 → (Lit.int .i64 n).wf = true → Calls Try.prog 10 #[.string s, .int .i64 n] w (Scanned s n w)
  fits : ∀ (size : Int) (p : ByteArray) (w : World), p.size ≤ maxLen → (Lit.int .i64 size).wf = true → Calls Try.prog 16 #[.int .i64 size, .string p] w fun e w' => e = .returned (.bool (ftS size p)) ∧ w = w'
  put : ∀ (p : ByteArray) (w : World), p.size ≤ maxLen → Calls Try.prog 18 #[.string p] w fun e w' => e = .returned (.tuple #[.string (prS p), .int .i64 (prE p)]) ∧ Below w.heap.size w w'

theorem IntsIn.forms {w : World} {v : Value} {l : List Int} (h : IntsIn w v l) : ∃ A c, v = .slice A l.length c := by
  obtain ⟨A, off, cap, hv, _⟩ := h.cell
  exact ⟨A, cap, hv⟩

set_option maxHeartbeats 1000000 in
theorem told_yes (api : ChunksApi) (s : ByteArray) (n : Int) (w : World) (hs : s.size ≤ 1000000) (wn : (Lit.int .i64 n).wf = true) (A : Option Addr) (c : Nat) (l : List Int) (hl : l = scL s n) (hv : IntsIn w (.slice A l.length c) l) (k : Nat) (hk : scE s n = k) (b : Bool) (hb : scOk s n = b) :
    Calls Try.prog 19 #[.string s, .int .i64 n, .slice A l.length c, .int .i64 (k : Nat), .bool b] w fun e w' => e = .returned (.bool true) ∧ Below w.heap.size w w' := by
  have S1 := Lib.hid fun W => api.scan s n W hs wn
  unfold Scanned at S1
  rw [hk, hb, ← hl] at S1
  have HV := Lib.hid hv
  have e1 : ((k : Int) == (k : Int)) = true := by simp
  have e2 : (b == b) = true := by simp
  clear hl hk hb hv
  go_enter Try.func19, Try.ntmps19
  go_wp2_with fail
  refine (S1.out _).mono ?_
  rintro e w1 ⟨u1, rfl, i1, hb1⟩
  obtain ⟨A1, c1, rfl⟩ := i1.forms
  have hi := ints_any _ _ l l w1 i1 (HV.out.below hb1 (Nat.le_refl _))
  rw [decide_eq_true rfl] at hi
  have HI := Lib.hid hi
  clear hi i1
  go_wp2_with fail
  refine HI.out.mono ?_
  rintro e w2 ⟨rfl, m, rfl⟩
  go_wp2
  go_ret
  exact ⟨rfl, below_drewN hb1 _⟩
end Go.Proofs.Ytoocejmimfhniaa

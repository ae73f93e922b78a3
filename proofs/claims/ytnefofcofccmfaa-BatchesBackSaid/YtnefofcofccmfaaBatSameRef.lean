/- The document's Same of batches. -/
import Derived.Test.YtnefofcofccmfaaBatCheckRef
namespace Go.Proofs.Ytnefofcofccmfaa
open Go.RowKit
set_option linter.unusedVariables false
attribute [local go_sem] run_store_float

/-- Whether two batches are the same (P9.2). -/
def bEq (s : ByteArray) (f : Int) (l : List RawS) (s' : ByteArray) (f' : Int) (l' : List RawS) : Bool := decide (s = s') && decide (f = f') && evAll l l'
theorem bEq_self (s : ByteArray) (f : Int) (l : List RawS) : bEq s f l s f l = true := by unfold bEq; rw [decide_eq_true rfl, decide_eq_true rfl, evAll_self]; rfl

theorem bsame_ref (s : ByteArray) (f : Int) (v : Value) (l : List RawS) (s' : ByteArray) (f' : Int) (v' : Value) (l' : List RawS) (w : World) (h : BatIn w s f v l) (h' : BatIn w s' f' v' l') :
    Calls Try.prog 16 #[batV s f v, batV s' f' v'] w fun e w' => e = .returned (.bool (bEq s f l s' f' l')) ∧ Below w.heap.size w w' := by
  have Ha := fun W (hW : Below w.heap.size w W) => all_ref v v' l l' W (h.below hW).v (h'.below hW).v (by have := h.n; omega) (by have := h'.n; omega) h.all h'.all
  obtain ⟨A, c, rfl⟩ := h.v.form
  obtain ⟨A', c', rfl⟩ := h'.v.form
  have hbel : Below w.heap.size w ((w.alloc (.cells #[.string s, .int .i64 f, .slice A l.length c] 28)).alloc (.cells #[.string s', .int .i64 f', .slice A' l'.length c'] 28)) := ((Below.refl _ _).alloc (Nat.le_refl _) _).alloc (by simp) _
  have HA := Lib.hid (Ha _ hbel)
  clear Ha h h'
  unfold batV bEq
  by_cases hs : s = s'
  · subst hs
    have e0 : (s.toList == s.toList) = true := by simp
    rw [decide_eq_true rfl, Bool.true_and]
    by_cases hf : f = f'
    · subst hf
      have e1 : (f == f) = true := by simp
      rw [decide_eq_true rfl, Bool.true_and]
      generalize evAll l l' = r at *
      go_enter Try.func16, Try.ntmps16
      go_wp2_with fail
      refine HA.out.mono ?_
      rintro e w1 ⟨rfl, hb1⟩
      go_wp2
      go_ret
      exact ⟨rfl, hbel.trans (hb1.mono (by simp; omega))⟩
    · have e1 : (f == f') = false := by simpa using hf
      rw [decide_eq_false hf, Bool.false_and]
      clear hf HA
      go_enter Try.func16, Try.ntmps16
      go_wp2
      go_ret
      exact ⟨rfl, hbel⟩
  · have e0 := txt_ne hs
    rw [decide_eq_false hs, Bool.false_and, Bool.false_and]
    clear hs HA
    go_enter Try.func16, Try.ntmps16
    go_wp2
    go_ret
    exact ⟨rfl, hbel⟩
end Go.Proofs.Ytnefofcofccmfaa

/- Two ranges of versions, one behind the other; the last one: plain lists. -/
import Derived.Test.YtiaobmgafhcfnaaMtMath
namespace Go.Proofs.Ytiaobmgafhcfnaa
open Go.RowKit
set_option linter.unusedVariables false

theorem inQ_iff {h : Nat} {a b : Int} {x : EntS} : inQ h a b x = true ↔ (x.h = h ∧ a ≤ x.v ∧ x.v ≤ b) := by unfold inQ; exact decide_eq_true_iff
theorem parts_range {h : Nat} {a b c : Int} (hab : a ≤ b) (hbc : b ≤ c) : ∀ {l : List EntS}, RiseE l → rangeE l h a c = rangeE l h a b ++ rangeE l h (b + 1) c
  | [], _ => rfl
  | x :: l, hr => by
    obtain ⟨h1, h2⟩ := List.pairwise_cons.1 hr
    have ih := parts_range (h := h) hab hbc h2
    unfold rangeE at ih ⊢
    rw [List.filter_cons, List.filter_cons, List.filter_cons]
    by_cases c1 : inQ h a b x = true
    · have d1 := inQ_iff.1 c1
      rw [if_pos c1, if_pos (inQ_iff.2 ⟨d1.1, d1.2.1, by omega⟩), if_neg (fun k => by have := inQ_iff.1 k; omega), ih]
      rfl
    · by_cases c2 : inQ h (b + 1) c x = true
      · have d2 := inQ_iff.1 c2
        have e0 : l.filter (inQ h a b) = [] := by
          rw [List.filter_eq_nil_iff]
          intro y hy k
          have d := inQ_iff.1 k
          have := lessE_iff.1 (h1 y hy)
          omega
        rw [if_neg c1, if_pos c2, if_pos (inQ_iff.2 ⟨d2.1, by omega, d2.2.2⟩), ih, e0]
        rfl
      · rw [if_neg c1, if_neg c2, if_neg (fun k => by
          have d := inQ_iff.1 k
          by_cases q : x.v ≤ b
          · exact c1 (inQ_iff.2 ⟨d.1, d.2.1, q⟩)
          · exact c2 (inQ_iff.2 ⟨d.1, by omega, d.2.2⟩)), ih]
theorem upto_last {l : List EntS} (hok : ∀ x ∈ l, EntOk x) (h : Nat) (c : Int) : lastO l h c = (rangeE l h (-9223372036854775808) c).getLast? := by
  have e : l.filter (upQ h c) = l.filter (inQ h (-9223372036854775808) c) := by
    apply List.filter_congr
    intro x hx
    unfold upQ inQ
    rw [decide_eq_decide]
    have := (hok x hx).v0
    omega
  unfold lastO rangeE
  rw [e]
theorem last_some {l : List EntS} (hok : ∀ x ∈ l, EntOk x) (h : Nat) (c : Int) {m : Nat} {x : EntS} (hm : (rangeE l h (-9223372036854775808) c).length = m + 1) (hx : (rangeE l h (-9223372036854775808) c)[m]? = some x) : lastE l h c = x ∧ lastOk l h c = true := by
  have e := upto_last hok h c
  rw [List.getLast?_eq_getElem?, hm, Nat.add_sub_cancel, hx] at e
  unfold lastE lastOk
  rw [e]
  exact ⟨rfl, rfl⟩
theorem last_zero {l : List EntS} (hok : ∀ x ∈ l, EntOk x) (h : Nat) (c : Int) (hm : rangeE l h (-9223372036854775808) c = []) : lastE l h c = ⟨0, 0, 0⟩ ∧ lastOk l h c = false := by
  have e := upto_last hok h c
  rw [hm] at e
  have e' : lastO l h c = none := e
  unfold lastE lastOk
  rw [e']
  exact ⟨rfl, rfl⟩
theorem range_length (l : List EntS) (h : Nat) (a b : Int) : (rangeE l h a b).length ≤ l.length := List.length_filter_le _ _
end Go.Proofs.Ytiaobmgafhcfnaa

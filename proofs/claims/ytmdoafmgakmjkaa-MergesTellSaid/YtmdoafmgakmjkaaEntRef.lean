/- One entry: Less, Put: the document's. -/
import Derived.Test.YtmdoafmgakmjkaaEntPut
import Derived.Test.YtmdoafmgakmjkaaNumsPutRef
namespace Go.Proofs.Ytmdoafmgakmjkaa
open Go.RowKit
set_option linter.unusedVariables false

theorem less_ref (x y : EntS) (w : World) :
    Calls Try.prog 18 #[entB x, entB y] w fun e w' => e = .returned (.bool (lessE x y)) ∧ Below w.heap.size w w' := by
  obtain ⟨h, v, p⟩ := x
  obtain ⟨h', v', p'⟩ := y
  have hb := below_two w (.cells #[.int .u64 (h : Nat), .int .i64 v, .int .i64 p] 30) (.cells #[.int .u64 (h' : Nat), .int .i64 v', .int .i64 p'] 30)
  have e := lessE_iff (x := ⟨h, v, p⟩) (y := ⟨h', v', p'⟩)
  simp only at e
  generalize lessE ⟨h, v, p⟩ ⟨h', v', p'⟩ = q at *
  by_cases c : h = h'
  · subst c
    by_cases c : v = v'
    · subst c
      by_cases c : p < p'
      · obtain rfl : q = true := e.2 (by omega)
        clear e
        go_enter Try.func18, Try.ntmps18
        go_wp2
        go_ret
        exact ⟨rfl, hb⟩
      · obtain rfl : q = false := Bool.eq_false_iff.2 (fun t => by have := e.1 t; omega)
        clear e
        go_enter Try.func18, Try.ntmps18
        go_wp2
        go_ret
        exact ⟨rfl, hb⟩
    · by_cases c2 : v < v'
      · obtain rfl : q = true := e.2 (by omega)
        clear e
        go_enter Try.func18, Try.ntmps18
        go_wp2
        go_ret
        exact ⟨rfl, hb⟩
      · obtain rfl : q = false := Bool.eq_false_iff.2 (fun t => by have := e.1 t; omega)
        clear e
        go_enter Try.func18, Try.ntmps18
        go_wp2
        go_ret
        exact ⟨rfl, hb⟩
  · by_cases c2 : h < h'
    · obtain rfl : q = true := e.2 (by omega)
      clear e
      have c4 : decide ((h : Int) < (h' : Int)) = true := decide_eq_true (by omega)
      go_enter Try.func18, Try.ntmps18
      go_wp2
      go_ret
      exact ⟨rfl, hb⟩
    · obtain rfl : q = false := Bool.eq_false_iff.2 (fun t => by have := e.1 t; omega)
      clear e
      have c3 : ((h : Int) == (h' : Int)) = false := beq_eq_false_iff_ne.2 (by omega)
      have c4 : decide ((h : Int) < (h' : Int)) = false := decide_eq_false (by omega)
      go_enter Try.func18, Try.ntmps18
      go_wp2
      go_ret
      exact ⟨rfl, hb⟩

end Go.Proofs.Ytmdoafmgakmjkaa

/- One entry: Less, may, Put, Get: the program's. -/
import Derived.Test.YtmdoafmgakmjkaaEntMath
import Derived.Test.YtmdoafmgakmjkaaNumsPut
import Derived.Test.YtmdoafmgakmjkaaNumsGet
import Derived.Deep.RegionHeld3
import Derived.Laws.StructEq
namespace Go.Proofs.Ytmdoafmgakmjkaa
open Go.RowKit
set_option linter.unusedVariables false

theorem ent_eqb (x y : EntS) : ((((x.h : Int) == (y.h : Int)) && (x.v == y.v)) && (x.p == y.p)) = decide (x = y) := by
  rw [Bool.eq_iff_iff, Bool.and_eq_true, Bool.and_eq_true, beq_iff_eq, beq_iff_eq, beq_iff_eq, decide_eq_true_iff]
  constructor
  · rintro ⟨⟨h1, h2⟩, h3⟩
    exact entS_ext (by omega) h2 h3
  · rintro rfl
    exact ⟨⟨rfl, rfl⟩, rfl⟩
set_option maxRecDepth 100000 in
theorem ent_equal (x y : EntS) (w : World) : (Op.equalIn 10000 30 (entB x) (entB y)).run Try.prog w = .ok (decide (x = y)) w := by
  rw [show (10000 : Nat) = 9998 + 1 + 1 from rfl, run_equalIn_agg w 9999 30 _ _ Try.underlying30 Try.stoodInHeld30]
  have e := ent_eqb x y
  by_cases h1 : (x.h : Int) = (y.h : Int)
  · by_cases h2 : x.v = y.v
    · by_cases h3 : x.p = y.p
      · have : x = y := entS_ext (by omega) h2 h3
        rw [decide_eq_true this]
        simp [Op.eqFields, go_sem, h1, h2, h3]
      · have : ¬ x = y := fun h => h3 (by rw [h])
        rw [decide_eq_false this]
        simp [Op.eqFields, go_sem, h1, h2, h3]
    · have : ¬ x = y := fun h => h2 (by rw [h])
      rw [decide_eq_false this]
      simp [Op.eqFields, go_sem, h1, h2]
  · have : ¬ x = y := fun h => h1 (by rw [h])
    rw [decide_eq_false this]
    simp [Op.eqFields, go_sem, h1]
theorem ent_eql (x y : EntS) (w : World) : (binOp .eql 30 (entB x) (entB y)).run Try.prog w = .ok (.bool (decide (x = y))) w := by
  rw [run_eql_struct, ent_equal]; rfl
theorem ent_neq (x y : EntS) (w : World) : (binOp .neq 30 (entB x) (entB y)).run Try.prog w = .ok (.bool (!decide (x = y))) w := by
  rw [run_neq_struct, ent_equal]; rfl

theorem below_two (w : World) (o o' : Obj) : Below w.heap.size w ((w.alloc o).alloc o') := ((Below.refl _ _).alloc (Nat.le_refl _) _).alloc (by simp) _

theorem eless_any (x y : EntS) (w : World) :
    Calls Try.prog 14 #[entB x, entB y] w fun e w' => e = .returned (.bool (lessE x y)) ∧ Below w.heap.size w w' := by
  obtain ⟨h, v, p⟩ := x
  obtain ⟨h', v', p'⟩ := y
  have hb := below_two w (.cells #[.int .u64 (h : Nat), .int .i64 v, .int .i64 p] 30) (.cells #[.int .u64 (h' : Nat), .int .i64 v', .int .i64 p'] 30)
  have e := lessE_iff (x := ⟨h, v, p⟩) (y := ⟨h', v', p'⟩)
  simp only at e
  generalize lessE ⟨h, v, p⟩ ⟨h', v', p'⟩ = q at *
  by_cases c : h = h'
  · subst c
    by_cases c : v = v'
    · subst c
      by_cases c : p < p'
      · obtain rfl : q = true := e.2 (by omega)
        clear e
        go_enter Try.func14, Try.ntmps14
        go_wp2
        go_ret
        exact ⟨rfl, hb⟩
      · obtain rfl : q = false := Bool.eq_false_iff.2 (fun t => by have := e.1 t; omega)
        clear e
        go_enter Try.func14, Try.ntmps14
        go_wp2
        go_ret
        exact ⟨rfl, hb⟩
    · by_cases c2 : v < v'
      · obtain rfl : q = true := e.2 (by omega)
        clear e
        go_enter Try.func14, Try.ntmps14
        go_wp2
        go_ret
        exact ⟨rfl, hb⟩
      · obtain rfl : q = false := Bool.eq_false_iff.2 (fun t => by have := e.1 t; omega)
        clear e
        go_enter Try.func14, Try.ntmps14
        go_wp2
        go_ret
        exact ⟨rfl, hb⟩
  · by_cases c2 : h < h'
    · obtain rfl : q = true := e.2 (by omega)
      clear e
      have c3 : ((h : Int) != (h' : Int)) = true := by simp; omega
      have c4 : decide ((h : Int) < (h' : Int)) = true := decide_eq_true (by omega)
      go_enter Try.func14, Try.ntmps14
      go_wp2
      go_ret
      exact ⟨rfl, hb⟩
    · obtain rfl : q = false := Bool.eq_false_iff.2 (fun t => by have := e.1 t; omega)
      clear e
      have c3 : ((h : Int) != (h' : Int)) = true := by simp; omega
      have c4 : decide ((h : Int) < (h' : Int)) = false := decide_eq_false (by omega)
      go_enter Try.func14, Try.ntmps14
      go_wp2
      go_ret
      exact ⟨rfl, hb⟩

end Go.Proofs.Ytmdoafmgakmjkaa

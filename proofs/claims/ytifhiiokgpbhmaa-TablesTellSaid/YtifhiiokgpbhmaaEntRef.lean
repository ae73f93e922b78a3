/- One entry: Less, Put: the document's. -/
import Derived.Test.YtifhiiokgpbhmaaEntPut
import Derived.Test.YtifhiiokgpbhmaaNumsPutRef
namespace Go.Proofs.Ytifhiiokgpbhmaa
open Go.RowKit
set_option linter.unusedVariables false

theorem less_ref (x y : EntS) (w : World) :
    Calls Try.prog 34 #[entB x, entB y] w fun e w' => e = .returned (.bool (lessE x y)) ∧ Below w.heap.size w w' := by
  obtain ⟨h, v, p⟩ := x
  obtain ⟨h', v', p'⟩ := y
  have hb := below_two w (.cells #[.int .u64 (h : Nat), .int .i64 v, .int .i64 p] 36) (.cells #[.int .u64 (h' : Nat), .int .i64 v', .int .i64 p'] 36)
  have e := lessE_iff (x := ⟨h, v, p⟩) (y := ⟨h', v', p'⟩)
  simp only at e
  generalize lessE ⟨h, v, p⟩ ⟨h', v', p'⟩ = q at *
  by_cases c : h = h'
  · subst c
    by_cases c : v = v'
    · subst c
      by_cases c : p < p'
      · obtain rfl : q = true := e.2 (by omega)
        clear e
        go_enter Try.func34, Try.ntmps34
        go_wp2
        go_ret
        exact ⟨rfl, hb⟩
      · obtain rfl : q = false := Bool.eq_false_iff.2 (fun t => by have := e.1 t; omega)
        clear e
        go_enter Try.func34, Try.ntmps34
        go_wp2
        go_ret
        exact ⟨rfl, hb⟩
    · by_cases c2 : v < v'
      · obtain rfl : q = true := e.2 (by omega)
        clear e
        go_enter Try.func34, Try.ntmps34
        go_wp2
        go_ret
        exact ⟨rfl, hb⟩
      · obtain rfl : q = false := Bool.eq_false_iff.2 (fun t => by have := e.1 t; omega)
        clear e
        go_enter Try.func34, Try.ntmps34
        go_wp2
        go_ret
        exact ⟨rfl, hb⟩
  · by_cases c2 : h < h'
    · obtain rfl : q = true := e.2 (by omega)
      clear e
      have c4 : decide ((h : Int) < (h' : Int)) = true := decide_eq_true (by omega)
      go_enter Try.func34, Try.ntmps34
      go_wp2
      go_ret
      exact ⟨rfl, hb⟩
    · obtain rfl : q = false := Bool.eq_false_iff.2 (fun t => by have := e.1 t; omega)
      clear e
      have c3 : ((h : Int) == (h' : Int)) = false := beq_eq_false_iff_ne.2 (by omega)
      have c4 : decide ((h : Int) < (h' : Int)) = false := decide_eq_false (by omega)
      go_enter Try.func34, Try.ntmps34
      go_wp2
      go_ret
      exact ⟨rfl, hb⟩

theorem putr_no (x : EntS) (w : World) (hm : mayE x = false) :
    Calls Try.prog 23 #[entB x] w fun e w' => e = .returned (.string (putE x)) ∧ Below w.heap.size w w' := by
  rw [en_put_no hm]
  have h := of_decide_eq_false hm
  obtain ⟨h0, v, p⟩ := x
  have h1 : ¬ (0 ≤ v ∧ 0 ≤ p) := h
  clear h hm
  have hb := (Below.refl w.heap.size w).alloc (Nat.le_refl _) (.cells #[.int .u64 (h0 : Nat), .int .i64 v, .int .i64 p] 36)
  by_cases c : v < 0
  · clear h1
    go_enter Try.func23, Try.ntmps23
    go_wp2
    go_ret
    exact ⟨rfl, hb⟩
  · have c2 : p < 0 := by omega
    clear h1
    go_enter Try.func23, Try.ntmps23
    go_wp2
    go_ret
    exact ⟨rfl, hb⟩

set_option maxHeartbeats 1600000 in
set_option maxRecDepth 100000 in
theorem putr_yes (h v p : Nat) (w : World) (hh : h < 18446744073709551616) (hv : v < 9223372036854775808) (hp : p < 9223372036854775808) :
    Calls Try.prog 23 #[entB ⟨h, (v : Nat), (p : Nat)⟩] w fun e w' => e = .returned (.string (putE ⟨h, (v : Nat), (p : Nat)⟩)) ∧ Below w.heap.size w w' := by
  have hm : mayE ⟨h, (v : Nat), (p : Nat)⟩ = true := decide_eq_true ⟨by show (0 : Int) ≤ (v : Int); omega, by show (0 : Int) ≤ (p : Int); omega⟩
  have HP1 := Lib.hid fun W => putr_some h 8 W (by omega) (by omega) hh
  have HP2 := Lib.hid fun W => putr_some v 8 W (by omega) (by omega) (by omega)
  have HP3 := Lib.hid fun W => putr_some p 8 W (by omega) (by omega) (by omega)
  have HH := Lib.hid (And.intro hh (And.intro hv hp))
  have s1 : (bs (be 8 h)).size = 8 := by rw [bs_size, be_length]
  have s2 : (bs (be 8 v)).size = 8 := by rw [bs_size, be_length]
  have s3 : (bs (be 8 p)).size = 8 := by rw [bs_size, be_length]
  have e : putE ⟨h, (v : Nat), (p : Nat)⟩ = bs (be 8 h) ++ bs (be 8 v) ++ bs (be 8 p) := by
    unfold putE
    rw [if_pos hm, bs_append, bs_append]
    unfold putL
    rw [List.append_assoc]
    rfl
  have a1 : ∀ w : World, (Op.stringOp .add (bs (be 8 h)) (bs (be 8 v))).run Try.prog w = .ok (.string (bs (be 8 h) ++ bs (be 8 v))) w := fun w => run_string_add_sum (P := Try.prog) (w := w) _ _ (by omega)
  have s4 : (bs (be 8 h) ++ bs (be 8 v)).size = 16 := by rw [ByteArray.size_append, s1, s2]
  have a2 : ∀ w : World, (Op.stringOp .add (bs (be 8 h) ++ bs (be 8 v)) (bs (be 8 p))).run Try.prog w = .ok (.string (putE ⟨h, (v : Nat), (p : Nat)⟩)) w := fun w => by rw [e]; exact run_string_add_sum (P := Try.prog) (w := w) _ _ (by omega)
  generalize putE ⟨h, (v : Nat), (p : Nat)⟩ = X at *
  clear e hm
  go_enter Try.func23, Try.ntmps23
  obtain ⟨w1, hw1⟩ : ∃ w1, w.alloc (.cells #[.int .u64 (h : Nat), .int .i64 (v : Nat), .int .i64 (p : Nat)] 36) = w1 := ⟨_, rfl⟩
  have hz1 : w.heap.size + 1 = w1.heap.size := by rw [← hw1]; simp
  have k0 : w1.cell? ⟨w.heap.size, 0, none⟩ = some (.int .u64 (h : Nat)) := by rw [← hw1]; exact World.cell?_alloc_at _ _ _ _ rfl
  have k1 : w1.cell? ⟨w.heap.size, 1, none⟩ = some (.int .i64 (v : Nat)) := by rw [← hw1]; exact World.cell?_alloc_at _ _ _ _ rfl
  have k2 : w1.cell? ⟨w.heap.size, 2, none⟩ = some (.int .i64 (p : Nat)) := by rw [← hw1]; exact World.cell?_alloc_at _ _ _ _ rfl
  have hbw : Below w.heap.size w w1 := by rw [← hw1]; exact (Below.refl _ _).alloc (Nat.le_refl _) _
  have HS : Hid (∀ W, Below w1.heap.size w1 W → Below w1.heap.size w1 W ∧ W.cell? ⟨w.heap.size, 0, none⟩ = some (.int .u64 (h : Nat)) ∧ W.cell? ⟨w.heap.size, 1, none⟩ = some (.int .i64 (v : Nat)) ∧ W.cell? ⟨w.heap.size, 2, none⟩ = some (.int .i64 (p : Nat))) :=
    Lib.hid fun W hW => ⟨hW, kcell hW (show w.heap.size < _ by omega) k0, kcell hW (show w.heap.size < _ by omega) k1, kcell hW (show w.heap.size < _ by omega) k2⟩
  have C1 := Lib.hid (put_held (w1 := w1) (b := w.heap.size) (h := h) (v := v) (p := p) HH.out.1 HP1.out)
  have C2 := Lib.hid (put_held (w1 := w1) (b := w.heap.size) (h := h) (v := v) (p := p) (n := v) (by have := HH.out; omega) HP2.out)
  have C3 := Lib.hid (put_held (w1 := w1) (b := w.heap.size) (h := h) (v := v) (p := p) (n := p) (by have := HH.out; omega) HP3.out)
  generalize bs (be 8 h) ++ bs (be 8 v) = X12 at *
  generalize bs (be 8 h) = X1 at *
  generalize bs (be 8 v) = X2 at *
  generalize bs (be 8 p) = X3 at *
  have q1 : IntKind.u64.wrap ((v : Nat) : Int) = (v : Nat) := IntWalk.u64_in _ ⟨by omega, by omega⟩
  have q2 : IntKind.u64.wrap ((p : Nat) : Int) = (p : Nat) := IntWalk.u64_in _ ⟨by omega, by omega⟩
  clear HP1 HP2 HP3 s1 s2 s3 s4
  go_wp2_with fail
  go_region_held3 (fun W => Below w1.heap.size w1 W ∧ W.cell? ⟨w.heap.size, 0, none⟩ = some (.int .u64 (h : Nat)) ∧ W.cell? ⟨w.heap.size, 1, none⟩ = some (.int .i64 (v : Nat)) ∧ W.cell? ⟨w.heap.size, 2, none⟩ = some (.int .i64 (p : Nat)))
    (first | assumption | exact HS.out _ (by assumption) | exact HS.out _ (Below.refl _ _).drew | fail) (first
    | (go_at_call 22; ((with_reducible refine (C1.out _ (by assumption)).mono ?_); rintro e w' ⟨rfl, hb⟩))
    | (go_at_call 22; ((with_reducible refine (C2.out _ (by assumption)).mono ?_); rintro e w' ⟨rfl, hb⟩))
    | (go_at_call 22; ((with_reducible refine (C3.out _ (by assumption)).mono ?_); rintro e w' ⟨rfl, hb⟩))
    | fail)
  all_goals
    go_wp2
    go_ret
    exact ⟨rfl, hbw.trans ((And.left (‹Below w1.heap.size w1 _ ∧ _›)).mono hbw.size)⟩
theorem eput_ref (x : EntS) (w : World) (hx : EntOk x) :
    Calls Try.prog 23 #[entB x] w fun e w' => e = .returned (.string (putE x)) ∧ Below w.heap.size w w' := by
  cases hm : mayE x with
  | false => exact putr_no x w hm
  | true =>
    obtain ⟨v, p, e, hv, hp⟩ := ent_nat hx hm
    rw [e]
    exact putr_yes x.h v p w hx.h hv hp
end Go.Proofs.Ytifhiiokgpbhmaa

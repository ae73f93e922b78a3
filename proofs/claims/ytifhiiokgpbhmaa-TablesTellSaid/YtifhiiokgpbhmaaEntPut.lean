/- One entry's bytes: the program's. -/
import Derived.Test.YtifhiiokgpbhmaaEntOne
namespace Go.Proofs.Ytifhiiokgpbhmaa
open Go.RowKit
set_option linter.unusedVariables false

theorem kcell {W0 W : World} {p : Addr} {v : Value} (h : Below W0.heap.size W0 W) (hp : p.block < W0.heap.size) (hc : W0.cell? p = some v) : W.cell? p = some v := (h.cell hp).trans hc
/-- What is held while the three numbers are put. -/
def PutHeld (w1 : World) (b h v p : Nat) (W : World) : Prop := Below w1.heap.size w1 W ∧ W.cell? ⟨b, 0, none⟩ = some (.int .u64 (h : Nat)) ∧ W.cell? ⟨b, 1, none⟩ = some (.int .i64 (v : Nat)) ∧ W.cell? ⟨b, 2, none⟩ = some (.int .i64 (p : Nat))
theorem put_held {f : Nat} {w1 : World} {b h v p n : Nat} (hn : n < 18446744073709551616) (hp : ∀ W, Calls Try.prog f #[.int .u64 (n : Nat), .int .i64 8] W fun e w' => e = .returned (.string (bs (be 8 n))) ∧ Below W.heap.size W w') (W : World)
    (hS : Below w1.heap.size w1 W ∧ W.cell? ⟨b, 0, none⟩ = some (.int .u64 (h : Nat)) ∧ W.cell? ⟨b, 1, none⟩ = some (.int .i64 (v : Nat)) ∧ W.cell? ⟨b, 2, none⟩ = some (.int .i64 (p : Nat))) :
    Calls Try.prog f #[.int .u64 (n : Nat), .int .i64 8] W fun e w' => e = .returned (.string (bs (be 8 n))) ∧ Below w1.heap.size w1 w' := (hp W).mono fun e w' ⟨he, hb⟩ => ⟨he, bj hS.1 hb⟩

theorem put_no (x : EntS) (w : World) (hm : mayE x = false) :
    Calls Try.prog 16 #[entB x] w fun e w' => e = .returned (.string (putE x)) ∧ Below w.heap.size w w' := by
  have HM := fun W => may_any x W
  rw [hm] at HM
  rw [en_put_no hm]
  have HM2 := Lib.hid HM
  obtain ⟨h, v, p⟩ := x
  clear HM hm
  go_enter Try.func16, Try.ntmps16
  go_wp2_with fail
  refine (HM2.out _).mono ?_
  rintro e w1 ⟨rfl, hb1⟩
  go_wp2
  go_ret
  exact ⟨rfl, ((Below.refl _ _).alloc (Nat.le_refl _) _).trans (hb1.mono (by simp))⟩

set_option maxHeartbeats 1600000 in
set_option maxRecDepth 100000 in
theorem put_yes (h v p : Nat) (w : World) (hh : h < 18446744073709551616) (hv : v < 9223372036854775808) (hp : p < 9223372036854775808) :
    Calls Try.prog 16 #[entB ⟨h, (v : Nat), (p : Nat)⟩] w fun e w' => e = .returned (.string (putE ⟨h, (v : Nat), (p : Nat)⟩)) ∧ Below w.heap.size w w' := by
  have hm : mayE ⟨h, (v : Nat), (p : Nat)⟩ = true := decide_eq_true ⟨by show (0 : Int) ≤ (v : Int); omega, by show (0 : Int) ≤ (p : Int); omega⟩
  have HM := fun W => may_any ⟨h, (v : Nat), (p : Nat)⟩ W
  rw [hm] at HM
  have HM2 := Lib.hid HM
  have HP1 := Lib.hid fun W => put_some h 8 W (by omega) (by omega) hh
  have HP2 := Lib.hid fun W => put_some v 8 W (by omega) (by omega) (by omega)
  have HP3 := Lib.hid fun W => put_some p 8 W (by omega) (by omega) (by omega)
  have HH := Lib.hid (And.intro hh (And.intro hv hp))
  have s1 : (bs (be 8 h)).size = 8 := by rw [bs_size, be_length]
  have s2 : (bs (be 8 v)).size = 8 := by rw [bs_size, be_length]
  have s3 : (bs (be 8 p)).size = 8 := by rw [bs_size, be_length]
  have e : putE ⟨h, (v : Nat), (p : Nat)⟩ = bs (be 8 h) ++ bs (be 8 v) ++ bs (be 8 p) := by
    unfold putE
    rw [if_pos hm, bs_append, bs_append]
    unfold putL
    rw [List.append_assoc]
    rfl
  have a1 : ∀ w : World, (Op.stringOp .add (bs (be 8 h)) (bs (be 8 v))).run Try.prog w = .ok (.string (bs (be 8 h) ++ bs (be 8 v))) w := fun w => run_string_add_sum (P := Try.prog) (w := w) _ _ (by omega)
  have s4 : (bs (be 8 h) ++ bs (be 8 v)).size = 16 := by rw [ByteArray.size_append, s1, s2]
  have a2 : ∀ w : World, (Op.stringOp .add (bs (be 8 h) ++ bs (be 8 v)) (bs (be 8 p))).run Try.prog w = .ok (.string (putE ⟨h, (v : Nat), (p : Nat)⟩)) w := fun w => by rw [e]; exact run_string_add_sum (P := Try.prog) (w := w) _ _ (by omega)
  generalize putE ⟨h, (v : Nat), (p : Nat)⟩ = X at *
  clear e HM hm
  go_enter Try.func16, Try.ntmps16
  go_wp2_with fail
  refine (HM2.out _).mono ?_
  rintro e w1 ⟨rfl, hb1⟩
  have hz1 := hb1.size
  rw [World.size_alloc] at hz1
  have k0 : w1.cell? ⟨w.heap.size, 0, none⟩ = some (.int .u64 (h : Nat)) := kcell hb1 (by simp) (World.cell?_alloc_at _ _ _ _ rfl)
  have k1 : w1.cell? ⟨w.heap.size, 1, none⟩ = some (.int .i64 (v : Nat)) := kcell hb1 (by simp) (World.cell?_alloc_at _ _ _ _ rfl)
  have k2 : w1.cell? ⟨w.heap.size, 2, none⟩ = some (.int .i64 (p : Nat)) := kcell hb1 (by simp) (World.cell?_alloc_at _ _ _ _ rfl)
  have hbw : Below w.heap.size w w1 := ((Below.refl _ _).alloc (Nat.le_refl _) _).trans (hb1.mono (by simp))
  have HS : Hid (∀ W, Below w1.heap.size w1 W → Below w1.heap.size w1 W ∧ W.cell? ⟨w.heap.size, 0, none⟩ = some (.int .u64 (h : Nat)) ∧ W.cell? ⟨w.heap.size, 1, none⟩ = some (.int .i64 (v : Nat)) ∧ W.cell? ⟨w.heap.size, 2, none⟩ = some (.int .i64 (p : Nat))) :=
    Lib.hid fun W hW => ⟨hW, kcell hW (show w.heap.size < _ by omega) k0, kcell hW (show w.heap.size < _ by omega) k1, kcell hW (show w.heap.size < _ by omega) k2⟩
  have C1 := Lib.hid (put_held (w1 := w1) (b := w.heap.size) (h := h) (v := v) (p := p) HH.out.1 HP1.out)
  have C2 := Lib.hid (put_held (w1 := w1) (b := w.heap.size) (h := h) (v := v) (p := p) (n := v) (by have := HH.out; omega) HP2.out)
  have C3 := Lib.hid (put_held (w1 := w1) (b := w.heap.size) (h := h) (v := v) (p := p) (n := p) (by have := HH.out; omega) HP3.out)
  generalize bs (be 8 h) ++ bs (be 8 v) = X12 at *
  generalize bs (be 8 h) = X1 at *
  generalize bs (be 8 v) = X2 at *
  generalize bs (be 8 p) = X3 at *
  have q1 : IntKind.u64.wrap ((v : Nat) : Int) = (v : Nat) := IntWalk.u64_in _ ⟨by omega, by omega⟩
  have q2 : IntKind.u64.wrap ((p : Nat) : Int) = (p : Nat) := IntWalk.u64_in _ ⟨by omega, by omega⟩
  clear hb1 HP1 HP2 HP3 HM2 s1 s2 s3 s4
  go_wp2_with fail
  go_region_held3 (fun W => Below w1.heap.size w1 W ∧ W.cell? ⟨w.heap.size, 0, none⟩ = some (.int .u64 (h : Nat)) ∧ W.cell? ⟨w.heap.size, 1, none⟩ = some (.int .i64 (v : Nat)) ∧ W.cell? ⟨w.heap.size, 2, none⟩ = some (.int .i64 (p : Nat)))
    (first | assumption | exact HS.out _ (by assumption) | exact HS.out _ (Below.refl _ _).drew | fail) (first
    | (go_at_call 19; ((with_reducible refine (C1.out _ (by assumption)).mono ?_); rintro e w' ⟨rfl, hb⟩))
    | (go_at_call 19; ((with_reducible refine (C2.out _ (by assumption)).mono ?_); rintro e w' ⟨rfl, hb⟩))
    | (go_at_call 19; ((with_reducible refine (C3.out _ (by assumption)).mono ?_); rintro e w' ⟨rfl, hb⟩))
    | fail)
  all_goals
    go_wp2
    go_ret
    exact ⟨rfl, hbw.trans ((And.left (‹Below w1.heap.size w1 _ ∧ _›)).mono hbw.size)⟩
theorem ent_nat {x : EntS} (hx : EntOk x) (hm : mayE x = true) : ∃ v p : Nat, x = ⟨x.h, (v : Nat), (p : Nat)⟩ ∧ v < 9223372036854775808 ∧ p < 9223372036854775808 := by
  have h := of_decide_eq_true hm
  obtain ⟨h1, h2, h3, h4, h5⟩ := hx
  exact ⟨x.v.toNat, x.p.toNat, entS_ext rfl (by show x.v = ((x.v.toNat : Nat) : Int); omega) (by show x.p = ((x.p.toNat : Nat) : Int); omega), by omega, by omega⟩
theorem eput_any (x : EntS) (w : World) (hx : EntOk x) :
    Calls Try.prog 16 #[entB x] w fun e w' => e = .returned (.string (putE x)) ∧ Below w.heap.size w w' := by
  cases hm : mayE x with
  | false => exact put_no x w hm
  | true =>
    obtain ⟨v, p, e, hv, hp⟩ := ent_nat hx hm
    rw [e]
    exact put_yes x.h v p w hx.h hv hp
end Go.Proofs.Ytifhiiokgpbhmaa

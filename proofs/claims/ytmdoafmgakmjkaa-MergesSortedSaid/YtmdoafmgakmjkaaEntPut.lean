/- One entry's bytes: the program's. -/
import Derived.Test.YtmdoafmgakmjkaaEntOne
namespace Go.Proofs.Ytmdoafmgakmjkaa
open Go.RowKit
set_option linter.unusedVariables false

theorem kcell {W0 W : World} {p : Addr} {v : Value} (h : Below W0.heap.size W0 W) (hp : p.block < W0.heap.size) (hc : W0.cell? p = some v) : W.cell? p = some v := (h.cell hp).trans hc
/-- What is held while the three numbers are put. -/
def PutHeld (w1 : World) (b h v p : Nat) (W : World) : Prop := Below w1.heap.size w1 W ∧ W.cell? ⟨b, 0, none⟩ = some (.int .u64 (h : Nat)) ∧ W.cell? ⟨b, 1, none⟩ = some (.int .i64 (v : Nat)) ∧ W.cell? ⟨b, 2, none⟩ = some (.int .i64 (p : Nat))
theorem put_held {f : Nat} {w1 : World} {b h v p n : Nat} (hn : n < 18446744073709551616) (hp : ∀ W, Calls Try.prog f #[.int .u64 (n : Nat), .int .i64 8] W fun e w' => e = .returned (.string (bs (be 8 n))) ∧ Below W.heap.size W w') (W : World)
    (hS : Below w1.heap.size w1 W ∧ W.cell? ⟨b, 0, none⟩ = some (.int .u64 (h : Nat)) ∧ W.cell? ⟨b, 1, none⟩ = some (.int .i64 (v : Nat)) ∧ W.cell? ⟨b, 2, none⟩ = some (.int .i64 (p : Nat))) :
    Calls Try.prog f #[.int .u64 (n : Nat), .int .i64 8] W fun e w' => e = .returned (.string (bs (be 8 n))) ∧ Below w1.heap.size w1 w' := (hp W).mono fun e w' ⟨he, hb⟩ => ⟨he, bj hS.1 hb⟩

theorem ent_nat {x : EntS} (hx : EntOk x) (hm : mayE x = true) : ∃ v p : Nat, x = ⟨x.h, (v : Nat), (p : Nat)⟩ ∧ v < 9223372036854775808 ∧ p < 9223372036854775808 := by
  have h := of_decide_eq_true hm
  obtain ⟨h1, h2, h3, h4, h5⟩ := hx
  exact ⟨x.v.toNat, x.p.toNat, entS_ext rfl (by show x.v = ((x.v.toNat : Nat) : Int); omega) (by show x.p = ((x.p.toNat : Nat) : Int); omega), by omega, by omega⟩
end Go.Proofs.Ytmdoafmgakmjkaa

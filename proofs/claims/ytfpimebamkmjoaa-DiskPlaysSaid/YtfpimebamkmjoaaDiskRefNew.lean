/- New: the document's. -/
import Derived.Test.YtfpimebamkmjoaaDiskRefSet
namespace Go.Proofs.Ytfpimebamkmjoaa
open Go.RowKit
set_option linter.unusedVariables false

def newS (c : Nat) : DiskS := ⟨c, [], 0, false, 0, 0, []⟩
theorem RefAt.new {w : World} {base g : Nat} {c : Nat} (hb : base ≤ g) (h : Blok w g 38 #[.int .i64 c, .slice none 0 0, .int .i64 0, .bool false, .int .i64 0, .int .i64 0, .slice none 0 0]) : RefAt w base g [g] (newS c) :=
  ⟨_, _, h, hb, World.ownsRow_nil _ _ _ _, World.ownsRow_nil _ _ _ _, rfl⟩
def NewBad (w : World) (e : Ending) (w' : World) : Prop := e = .returned (.tuple #[.pointer none, .int .i64 2]) ∧ w = w'
def NewGood (base : Nat) (w : World) (c : Nat) (e : Ending) (w' : World) : Prop := e = .returned (.tuple #[.pointer (some ⟨w.heap.size, 0, none⟩), .int .i64 0]) ∧ RefAt w' base w.heap.size [w.heap.size] (newS c) ∧ Touch [] w w'
theorem new_ref_bad (c : Int) (w : World) (hc : c < 0 ∨ 1048576 < c) :
    Calls Try.prog 11 #[.int .i64 c] w (NewBad w) := by
  rcases hc with h | h
  · go_enter Try.func11, Try.ntmps11
    go_wp2
    go_ret2
    exact ⟨rfl, rfl⟩
  · have h0 : decide (c < 0) = false := decide_eq_false (by omega)
    go_enter Try.func11, Try.ntmps11
    go_wp2
    go_ret2
    exact ⟨rfl, rfl⟩
theorem new_ref_good (base c : Nat) (w : World) (hb : base ≤ w.heap.size) (hc : c ≤ 1048576) :
    Calls Try.prog 11 #[.int .i64 (c : Nat)] w (NewGood base w c) := by
  have h0 : decide ((c : Int) < 0) = false := decide_eq_false (by omega)
  have h1 : decide ((1048576 : Int) < (c : Int)) = false := decide_eq_false (by omega)
  have HB := Lib.hid hb
  clear hb hc
  go_enter Try.func11, Try.ntmps11
  go_wp2
  go_ret2
  exact ⟨rfl, RefAt.new HB.out (Blok.new w _ _), (Touch.refl [] w).alloc _⟩
end Go.Proofs.Ytfpimebamkmjoaa

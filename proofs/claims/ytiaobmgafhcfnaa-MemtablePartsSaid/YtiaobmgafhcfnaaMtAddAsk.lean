/- What Add asks of each place: whether the entry there does not stand ahead of the new one. -/
import Derived.Test.YtiaobmgafhcfnaaMtMem
import Derived.Test.YtiaobmgafhcfnaaEntSortedOwn
namespace Go.Proofs.Ytiaobmgafhcfnaa
open Go.RowKit Go.Shelf
set_option linter.unusedVariables false

theorem aq_enters : Enters Try.prog 29 := enters_of Try.func29 (by kernel_rfl) rfl
/-- The cells that it reads. -/
def AskAt (W : World) (B1 B2 g b p : Nat) (v : Value) (x y : EntS) : Prop := W.cell? ⟨B1, 0, none⟩ = some (mtp g) ∧ W.cell? ⟨g, 1, none⟩ = some v ∧
  W.cell? ⟨B2, 0, none⟩ = some (.int .u64 (x.h : Nat)) ∧ W.cell? ⟨B2, 1, none⟩ = some (.int .i64 x.v) ∧ W.cell? ⟨B2, 2, none⟩ = some (.int .i64 x.p) ∧
  W.cell? ⟨b, p, none⟩ = some (.int .u64 (y.h : Nat)) ∧ W.cell? ⟨b, p + 1, none⟩ = some (.int .i64 y.v) ∧ W.cell? ⟨b, p + 2, none⟩ = some (.int .i64 y.p)
theorem AskAt.below {W W' : World} {B1 B2 g b p : Nat} {v : Value} {x y : EntS} (h : AskAt W B1 B2 g b p v x y) (hb : Below W.heap.size W W') : AskAt W' B1 B2 g b p v x y := by
  have q : ∀ {p : Addr} {u : Value}, W.cell? p = some u → W'.cell? p = some u := fun {p u} k => (hb.cell (p := p) (World.block_lt_of_cell? W _ k)).trans k
  obtain ⟨h1, h2, h3, h4, h5, h6, h7, h8⟩ := h
  exact ⟨q h1, q h2, q h3, q h4, q h5, q h6, q h7, q h8⟩
set_option maxHeartbeats 1000000 in
set_option maxRecDepth 100000 in
theorem addq_any (B1 B2 g b off n c i : Nat) (x y : EntS) (w : World) (hi : i < n) (hn : n ≤ 1000000) (hA : AskAt w B1 B2 g b (off + i * 3) (.slice (some ⟨b, off, none⟩) n c) x y) :
    Calls Try.prog 29 #[.int .i64 (i : Nat), mtp B1, mtp B2] w fun e w' => e = .returned (.bool (!lessE y x)) ∧ Below w.heap.size w w' := by
  have HS : Hid (∀ W, Below w.heap.size w W → Below w.heap.size w W ∧ AskAt W B1 B2 g b (off + i * 3) (.slice (some ⟨b, off, none⟩) n c) x y) := Lib.hid fun W hW => ⟨hW, hA.below hW⟩
  have HL := fun W => eless_any y x W
  have s0 := HS.out w (Below.refl _ _)
  have s1 : (i : Int) < (n : Int) := by omega
  have s2 : (n : Int) ≤ 1000000 := by omega
  clear hA
  generalize lessE y x = r at *
  have HLL := Lib.hid HL
  clear HL
  obtain ⟨xh, xv, xp⟩ := x
  obtain ⟨yh, yv, yp⟩ := y
  unfold AskAt at HS s0
  simp only at HS s0
  obtain ⟨-, c0, c1, c2, c3, c4, c5, c6, c7⟩ := s0
  go_enter Try.func29, Try.ntmps29
  go_wp2_with fail
  go_region_held3 (fun W => Below w.heap.size w W ∧ W.cell? ⟨B1, 0, none⟩ = some (mtp g) ∧ W.cell? ⟨g, 1, none⟩ = some (.slice (some ⟨b, off, none⟩) n c) ∧
    W.cell? ⟨B2, 0, none⟩ = some (.int .u64 (xh : Nat)) ∧ W.cell? ⟨B2, 1, none⟩ = some (.int .i64 xv) ∧ W.cell? ⟨B2, 2, none⟩ = some (.int .i64 xp) ∧
    W.cell? ⟨b, off + i * 3, none⟩ = some (.int .u64 (yh : Nat)) ∧ W.cell? ⟨b, off + i * 3 + 1, none⟩ = some (.int .i64 yv) ∧ W.cell? ⟨b, off + i * 3 + 2, none⟩ = some (.int .i64 yp))
    (first | (with_reducible assumption) | ((with_reducible refine HS.out _ ?_); (first | (with_reducible assumption) | (with_reducible exact Below.refl _ _) | (with_reducible exact (Below.refl _ _).drew) | exact (bj (And.left (by with_reducible assumption)) ‹Below _ _ _›)); done) | fail)
    (first
    | (go_at_call 30; ((with_reducible refine (HLL.out _).mono ?_); rintro e w3 ⟨rfl, hb3⟩; have hB3 : Below w.heap.size w w3 := bj (And.left (by with_reducible assumption)) hb3))
    | fail)
  all_goals
    go_wp2
    go_ret
    exact ⟨rfl, hB3⟩
end Go.Proofs.Ytiaobmgafhcfnaa

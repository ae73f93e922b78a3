/- Whether an entry is the last one that was told: the program's. -/
import Derived.Test.YtmdoafmgakmjkaaLists
import Derived.BigQuiet
namespace Go.Proofs.Ytmdoafmgakmjkaa
open Go.RowKit Go.Shelf
set_option linter.unusedVariables false
set_option maxRecDepth 100000

theorem last_at {l : List EntS} {n : Nat} (h : l.length = n + 1) : l.getLast? = l[n]? := by rw [List.getLast?_eq_getElem?, h, Nat.add_sub_cancel]
set_option maxHeartbeats 1000000 in
theorem told_any (v : Value) (l : List EntS) (x : EntS) (w : World) (h : EntsIn w v l) (hn : l.length ≤ 1000000) :
    Calls Try.prog 17 #[v, entB x] w fun e w' => e = .returned (.bool (decide (l.getLast? = some x))) ∧ Below w.heap.size w w' := by
  obtain ⟨A, off, cap, rfl, -, hcell⟩ := h.form
  obtain ⟨xh, xv, xp⟩ := x
  have hb := (Below.refl w.heap.size w).alloc (Nat.le_refl _) (.cells #[.int .u64 (xh : Nat), .int .i64 xv, .int .i64 xp] 30)
  have k0 : (w.alloc (.cells #[.int .u64 (xh : Nat), .int .i64 xv, .int .i64 xp] 30)).cell? ⟨w.heap.size, 0, none⟩ = some (.int .u64 (xh : Nat)) := World.cell?_alloc_at _ _ _ _ rfl
  have k1 : (w.alloc (.cells #[.int .u64 (xh : Nat), .int .i64 xv, .int .i64 xp] 30)).cell? ⟨w.heap.size, 1, none⟩ = some (.int .i64 xv) := World.cell?_alloc_at _ _ _ _ rfl
  have k2 : (w.alloc (.cells #[.int .u64 (xh : Nat), .int .i64 xv, .int .i64 xp] 30)).cell? ⟨w.heap.size, 2, none⟩ = some (.int .i64 xp) := World.cell?_alloc_at _ _ _ _ rfl
  by_cases h0 : l = []
  · subst h0
    have e : decide (([] : List EntS).getLast? = some ⟨xh, xv, xp⟩) = false := decide_eq_false (by simp)
    rw [e]
    clear h hcell hn e
    simp only [List.length_nil]
    go_enter Try.func17, Try.ntmps17
    obtain ⟨w1, hw1⟩ : ∃ w1, w.alloc (.cells #[.int .u64 (xh : Nat), .int .i64 xv, .int .i64 xp] 30) = w1 := ⟨_, rfl⟩
    rw [hw1] at hb k0 k1 k2
    go_wp2
    go_quiet (fail)
    go_wp2
    go_ret
    exact ⟨rfl, below_drewN hb _⟩
  · obtain ⟨m, hm⟩ : ∃ m, l.length = m + 1 := ⟨l.length - 1, by have := List.length_pos_iff.2 h0; omega⟩
    obtain ⟨y, hy⟩ : ∃ y, l[m]? = some y := ⟨_, List.getElem?_eq_getElem (by omega)⟩
    have e : decide (l.getLast? = some ⟨xh, xv, xp⟩) = decide (y = ⟨xh, xv, xp⟩) := by rw [last_at hm, hy]; exact decide_eq_decide.2 ⟨Option.some.inj, congrArg some⟩
    rw [e]
    obtain ⟨b, rfl, hbk, d0, d1, d2⟩ := hcell m y hy
    have c0 := (hb.cell (p := ⟨b, off + m * 3, none⟩) hbk).trans d0
    have c1 := (hb.cell (p := ⟨b, off + m * 3 + 1, none⟩) hbk).trans d1
    have c2 := (hb.cell (p := ⟨b, off + m * 3 + 2, none⟩) hbk).trans d2
    have heq := fun W => ent_eql y ⟨xh, xv, xp⟩ W
    obtain ⟨k, hk⟩ : ∃ k, k = l.length := ⟨_, rfl⟩
    have hkm : k = m + 1 := hk.trans hm
    rw [← hk]
    have q1 : (k : Int) - 1 = (m : Int) := by omega
    have q2 : decide ((0 : Int) < (k : Int)) = true := decide_eq_true (by omega)
    have q5 : decide (0 < k) = true := decide_eq_true (by omega)
    have q6 : (0 : Int) < (k : Int) := by omega
    have q7 : 0 < k := by omega
    have q3 : IntKind.i64.wrap ((m : Nat) : Int) = (m : Nat) := IntWalk.i64_in _ ⟨by omega, by omega⟩
    have q4 : (m : Int) < (k : Int) := by omega
    clear h hcell hn e hm hy hbk d0 d1 d2 hkm hk h0
    generalize decide (y = (⟨xh, xv, xp⟩ : EntS)) = q at *
    obtain ⟨yh, yv, yp⟩ := y
    simp only at c0 c1 c2 heq
    go_enter Try.func17, Try.ntmps17
    obtain ⟨w1, hw1⟩ : ∃ w1, w.alloc (.cells #[.int .u64 (xh : Nat), .int .i64 xv, .int .i64 xp] 30) = w1 := ⟨_, rfl⟩
    rw [hw1] at hb k0 k1 k2 c0 c1 c2
    go_wp2
    go_quiet (fail)
    go_wp2
    go_ret
    exact ⟨rfl, below_drewN hb _⟩
end Go.Proofs.Ytmdoafmgakmjkaa

/- PtRef -/
import Derived.Test.YtmbhafabphogdaaGreatPk34
import Derived.Test.YtmbhafabphogdaaGreatPk15
/- PtRef -/
namespace Go.Proofs.YtmbhafabphogdaaGreat
open Go.RowKit
set_option linter.unusedVariables false
set_option maxRecDepth 100000

theorem ptrange_ref (v : Value) (l : List EntS) (x : Nat) (a b : Int) (w : World) (hl : EntsIn w v l) (hn : l.length ≤ 400000) (hm : ∀ x ∈ l, mayE x = true) :
    Calls Tryz.prog 48 #[v, .int .u64 (x : Nat), .int .i64 a, .int .i64 b] w (EntsOut w (rangeE l x a (min b 1073741824))) := by
  have hR := ranger_any v l x (max a 0) (min b 1073741824) w hl hn
  rw [range_low hm] at hR
  have HR := Lib.hid hR
  obtain ⟨A, off, cap, rfl, -, -⟩ := hl.form
  obtain ⟨a', ha⟩ : ∃ a', max a 0 = a' := ⟨_, rfl⟩
  obtain ⟨b', hb⟩ : ∃ b', min b 1073741824 = b' := ⟨_, rfl⟩
  have i1 : (if (0 : Int) > a then 0 else a) = a' := by rw [← ha]; split <;> omega
  have i1' : (if a < (0 : Int) then 0 else a) = a' := by rw [← ha]; split <;> omega
  have i2 : (if (1073741824 : Int) < b then 1073741824 else b) = b' := by rw [← hb]; split <;> omega
  rw [ha, hb] at HR
  rw [hb]
  generalize rangeE l x a b' = R at *
  generalize l.length = m at *
  clear hl hR ha hb
  go_enter Tryz.func48, Tryz.ntmps48
  go_wp2_with fail
  refine HR.out.mono ?_
  rintro e w1 ⟨A2, c2, rfl, r1, b1⟩
  have H1 := Lib.hid (And.intro r1 b1)
  clear r1 b1
  go_wp2
  go_ret
  exact ⟨A2, c2, rfl, H1.out.1, H1.out.2⟩
theorem ptlast_ref (v : Value) (l : List EntS) (x : Nat) (b : Int) (w : World) (hl : EntsIn w v l) (hn : l.length ≤ 1000000) (hm : ∀ x ∈ l, mayE x = true) :
    Calls Tryz.prog 47 #[v, .int .u64 (x : Nat), .int .i64 b] w fun e w' => e = .returned (.tuple #[entB (lastE l x (min b 1073741824)), .bool (lastOk l x (min b 1073741824))]) ∧ Below w.heap.size w w' := by
  have hB := (Below.refl w.heap.size w).alloc (Nat.le_refl _) (.cells #[.int .u64 ((0 : Nat) : Int), .int .i64 0, .int .i64 0] 56)
  have E0 : EnAt (w.alloc (.cells #[.int .u64 ((0 : Nat) : Int), .int .i64 0, .int .i64 0] 56)) w.heap.size 0 0 0 := Blok.new _ _ _
  have hl1 := hl.below hB (Nat.le_refl _)
  have HR := Lib.hid (lastr_any v l x (min b 1073741824) _ hl1 hn)
  obtain ⟨A, off, cap, rfl, -, -⟩ := hl.form
  obtain ⟨b', hb⟩ : ∃ b', min b 1073741824 = b' := ⟨_, rfl⟩
  have i2 : (if (1073741824 : Int) < b then 1073741824 else b) = b' := by rw [← hb]; split <;> omega
  rw [hb] at HR ⊢
  obtain ⟨w1, hw1⟩ : ∃ w1, w.alloc (.cells #[.int .u64 ((0 : Nat) : Int), .int .i64 0, .int .i64 0] 56) = w1 := ⟨_, rfl⟩
  rw [hw1] at hB E0 HR
  have hw1' : w.alloc (.cells #[.int .u64 0, .int .i64 0, .int .i64 0] 56) = w1 := hw1
  have HE := Lib.hid E0
  have HB := Lib.hid hB
  by_cases h0 : b < 0
  · have he := last_low hm x (b := b') (by omega)
    have e1 : lastE l x b' = ⟨0, 0, 0⟩ := by unfold lastE; rw [he]; rfl
    have e2 : lastOk l x b' = false := by unfold lastOk; rw [he]; rfl
    rw [e1, e2]
    have t0 : decide (b < 0) = true := decide_eq_true h0
    obtain ⟨k0, k1, k2, f0, f1, f2⟩ := E0.facts
    generalize l.length = m at *
    clear hl hl1 hw1 hB E0 HR he e1 e2 hb hn
    go_enter Tryz.func47, Tryz.ntmps47
    go_wp2
    exact bodyPost_ret (v := .tuple #[entB ⟨0, 0, 0⟩, .bool false]) (by simp [results, Tryz.results47, go_sem, k0, k1, k2]) rfl ⟨rfl, low3 HB.out (Nat.le_refl _) _ _ _⟩
  · have t0 : decide (b < 0) = false := decide_eq_false h0
    generalize lastE l x b' = y at *
    generalize lastOk l x b' = q at *
    obtain ⟨yh, yv, yp⟩ := y
    generalize l.length = m at *
    clear hl hl1 hw1 hB E0 hb hn
    go_enter Tryz.func47, Tryz.ntmps47
    go_wp2_with fail
    refine HR.out.mono ?_
    rintro e w2 ⟨rfl, b2⟩
    obtain ⟨k0, k1, k2, f0, f1, f2⟩ := EnAt.facts (show EnAt w2 w.heap.size 0 0 0 from Blok.below HE.out b2)
    have HB2 := Lib.hid (bj HB.out b2)
    clear b2
    go_wp2
    exact bodyPost_ret (v := .tuple #[entB ⟨yh, yv, yp⟩, .bool q]) (by simp [results, Tryz.results47, go_sem, k0, k1, k2]) rfl ⟨rfl, low3 HB2.out (Nat.le_refl _) _ _ _⟩
end Go.Proofs.YtmbhafabphogdaaGreat

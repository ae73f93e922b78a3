/- The walk of EntriesTell. -/
import Derived.Test.YtjbhahcogdpkpaaEntered
import Derived.Test.YtjbhahcogdpkpaaEntPut
import Derived.Test.YtjbhahcogdpkpaaEntGetRef
import Derived.Test.YtjbhahcogdpkpaaEntBackWalk
namespace Go.Proofs.Ytjbhahcogdpkpaa.EnTell
open Go.RowKit Go.Shelf
set_option linter.unusedVariables false
attribute [local go_sem ↓] Go.wp_at_zero Go.wp_at_succ

theorem long (a b : EntS) (s : ByteArray) (w : World) (hs : s.size ≤ maxLen) (hl : 100 < s.size) :
    Calls Try.prog 3 #[entB a, entB b, .string s] w fun e w' => e = .returned (.bool true) ∧ Below w.heap.size w w' := by
  have hbw := below_two w (.cells #[.int .u64 (a.h : Nat), .int .i64 a.v, .int .i64 a.p] 24) (.cells #[.int .u64 (b.h : Nat), .int .i64 b.v, .int .i64 b.p] 24)
  have HE := Lib.hid entered_true
  unfold maxLen at hs
  have l1 : (100 : Int) < (s.size : Int) := by omega
  obtain ⟨ah, av, ap⟩ := a
  obtain ⟨bh, bv, bp⟩ := b
  go_enter Try.func3, Try.ntmps3
  go_wp2_with fail
  refine (HE.out _).mono ?_
  rintro e w2 ⟨rfl, hb2⟩
  go_wp2
  go_ret
  exact ⟨rfl, bj hbw hb2⟩
/-- Two entries as parameters, and two told: what is held. -/
def Held4 (w1 : World) (g p q : Nat) (a b x : EntS) (W : World) : Prop := Below w1.heap.size w1 W ∧ EnBack.Pair2 W g a b ∧
  (W.cell? ⟨p, 0, none⟩ = some (.int .u64 (x.h : Nat)) ∧ W.cell? ⟨p, 1, none⟩ = some (.int .i64 x.v) ∧ W.cell? ⟨p, 2, none⟩ = some (.int .i64 x.p)) ∧
  (W.cell? ⟨q, 0, none⟩ = some (.int .u64 (x.h : Nat)) ∧ W.cell? ⟨q, 1, none⟩ = some (.int .i64 x.v) ∧ W.cell? ⟨q, 2, none⟩ = some (.int .i64 x.p))
set_option maxHeartbeats 4000000 in
set_option maxRecDepth 100000 in
theorem short (a b : EntS) (s : ByteArray) (w : World) (ha : EntOk a) (hb : EntOk b) (hs : s.size ≤ 100) :
    Calls Try.prog 3 #[entB a, entB b, .string s] w fun e w' => e = .returned (.bool true) ∧ Below w.heap.size w w' := by
  have hbw := below_two w (.cells #[.int .u64 (a.h : Nat), .int .i64 a.v, .int .i64 a.p] 24) (.cells #[.int .u64 (b.h : Nat), .int .i64 b.v, .int .i64 b.p] 24)
  have HP := EnBack.pair_new w a b
  have HG1 := Lib.hid fun W => eget_any s W (by unfold maxLen; omega)
  have HG2 := Lib.hid fun W => eget_ref s W (by unfold maxLen; omega)
  have HL1 := Lib.hid fun W => less_any a b W
  have HL2 := Lib.hid fun W => less_ref a b W
  have HA1 := Lib.hid fun W => eput_any a W ha
  have HA2 := Lib.hid fun W => eput_ref a W ha
  have HE := Lib.hid entered_true
  have hxx := fun W => ent_eql (enG s) (enG s) W
  rw [decide_eq_true rfl] at hxx
  have e1 : ((putE a).toList == (putE a).toList) = true := by simp
  have e2 : (enOk s == enOk s) = true := by simp
  have e3 : (lessE a b == lessE a b) = true := by simp
  generalize putE a = P at *
  generalize lessE a b = o at *
  generalize enOk s = ok at *
  generalize enG s = x at *
  obtain ⟨w1, hw1⟩ : ∃ w1, (w.alloc (.cells #[.int .u64 (a.h : Nat), .int .i64 a.v, .int .i64 a.p] 24)).alloc (.cells #[.int .u64 (b.h : Nat), .int .i64 b.v, .int .i64 b.p] 24) = w1 := ⟨_, rfl⟩
  rw [hw1] at hbw HP
  have HW1 := Lib.hid hw1
  have HPP := Lib.hid HP
  have HBW := Lib.hid hbw
  clear hw1 HP ha hb hbw
  go_enter Try.func3, Try.ntmps3
  go_wp2_with fail
  rw [HW1.out]
  refine (HG1.out _).mono ?_
  rintro e w2 ⟨rfl, hb2⟩
  have X3 : EntAt (w2.alloc (.cells #[.int .u64 (x.h : Nat), .int .i64 x.v, .int .i64 x.p] 24)) w2.heap.size x.h x.v x.p := Blok.new _ _ _
  have hb3 : Below w1.heap.size w1 (w2.alloc (.cells #[.int .u64 (x.h : Nat), .int .i64 x.v, .int .i64 x.p] 24)) := hb2.alloc hb2.size _
  go_wp2_with fail
  refine (HG2.out _).mono ?_
  rintro e w4 ⟨rfl, hb4⟩
  have X4 := Blok.below X3 hb4
  have hb5 := bj hb3 hb4
  have Y5 : EntAt (w4.alloc (.cells #[.int .u64 (x.h : Nat), .int .i64 x.v, .int .i64 x.p] 24)) w4.heap.size x.h x.v x.p := Blok.new _ _ _
  have X5 : EntAt (w4.alloc (.cells #[.int .u64 (x.h : Nat), .int .i64 x.v, .int .i64 x.p] 24)) w2.heap.size x.h x.v x.p := Blok.alloc X4 _
  have hb6 : Below w1.heap.size w1 (w4.alloc (.cells #[.int .u64 (x.h : Nat), .int .i64 x.v, .int .i64 x.p] 24)) := hb5.alloc hb5.size _
  obtain ⟨wz, hwz⟩ : ∃ wz, w4.alloc (.cells #[.int .u64 (x.h : Nat), .int .i64 x.v, .int .i64 x.p] 24) = wz := ⟨_, rfl⟩
  obtain ⟨gp, hgp⟩ : ∃ gp, w2.heap.size = gp := ⟨_, rfl⟩
  obtain ⟨gq, hgq⟩ : ∃ gq, w4.heap.size = gq := ⟨_, rfl⟩
  rw [hwz, hgp] at X5
  rw [hwz, hgq] at Y5
  rw [hwz] at hb6
  have HS : Hid (∀ W, Below wz.heap.size wz W → Held4 wz w.heap.size gp gq a b x W) := Lib.hid fun W hW => ⟨hW, HPP.out W (bj hb6 hW), ⟨(EntAt.facts (Blok.below X5 hW)).1, (EntAt.facts (Blok.below X5 hW)).2.1, (EntAt.facts (Blok.below X5 hW)).2.2.1⟩, (EntAt.facts (Blok.below Y5 hW)).1, (EntAt.facts (Blok.below Y5 hW)).2.1, (EntAt.facts (Blok.below Y5 hW)).2.2.1⟩
  have HWZ := Lib.hid hwz
  have HGP := Lib.hid hgp
  have HGQ := Lib.hid hgq
  have HB6 := Lib.hid hb6
  unfold Held4 EnBack.Pair2 at HS
  have s0 := HS.out wz (Below.refl _ _)
  obtain ⟨-, ⟨⟨a0, a1, a2⟩, ⟨b0, b1, b2⟩⟩, ⟨x0, x1, x2⟩, ⟨y0, y1, y2⟩⟩ := s0
  clear X3 X4 X5 Y5 hb2 hb3 hb4 hb5 hb6 hwz hgp hgq HPP
  go_wp2_with fail
  rw [HWZ.out, HGP.out, HGQ.out]
  go_region_held3 (fun W => Below wz.heap.size wz W ∧ ((W.cell? ⟨w.heap.size, 0, none⟩ = some (.int .u64 (a.h : Nat)) ∧ W.cell? ⟨w.heap.size, 1, none⟩ = some (.int .i64 a.v) ∧ W.cell? ⟨w.heap.size, 2, none⟩ = some (.int .i64 a.p)) ∧
      (W.cell? ⟨w.heap.size + 1, 0, none⟩ = some (.int .u64 (b.h : Nat)) ∧ W.cell? ⟨w.heap.size + 1, 1, none⟩ = some (.int .i64 b.v) ∧ W.cell? ⟨w.heap.size + 1, 2, none⟩ = some (.int .i64 b.p))) ∧
      (W.cell? ⟨gp, 0, none⟩ = some (.int .u64 (x.h : Nat)) ∧ W.cell? ⟨gp, 1, none⟩ = some (.int .i64 x.v) ∧ W.cell? ⟨gp, 2, none⟩ = some (.int .i64 x.p)) ∧
      (W.cell? ⟨gq, 0, none⟩ = some (.int .u64 (x.h : Nat)) ∧ W.cell? ⟨gq, 1, none⟩ = some (.int .i64 x.v) ∧ W.cell? ⟨gq, 2, none⟩ = some (.int .i64 x.p)))
    (first | (with_reducible assumption) | ((with_reducible refine HS.out _ ?_); (repeat' (first | (with_reducible assumption) | (with_reducible exact Below.refl _ _) | (with_reducible refine Below.drew ?_))); done) | fail)
    (first
    | (go_at_call 10; ((with_reducible refine (HL1.out _).mono ?_); rintro e w' ⟨rfl, hb⟩; have hB2 := hold_go hb (by with_reducible assumption)))
    | (go_at_call 11; ((with_reducible refine (HL2.out _).mono ?_); rintro e w' ⟨rfl, hb⟩; have hB2 := hold_go hb (by with_reducible assumption)))
    | (go_at_call 12; ((with_reducible refine (HA1.out _).mono ?_); rintro e w' ⟨rfl, hb⟩; have hB2 := hold_go hb (by with_reducible assumption)))
    | (go_at_call 13; ((with_reducible refine (HA2.out _).mono ?_); rintro e w' ⟨rfl, hb⟩; have hB2 := hold_go hb (by with_reducible assumption)))
    | (go_at_call 7; ((with_reducible refine (HE.out _).mono ?_); rintro e w' ⟨rfl, hb⟩; have hB2 := hold_go hb (by with_reducible assumption)))
    | fail)
  all_goals
    go_wp2
    go_ret
    exact ⟨rfl, bj HBW.out (bj HB6.out (And.left (by with_reducible assumption)))⟩
theorem walk (W : World) (a b : EntS) (s : ByteArray) (wa : EntOk a) (wb : EntOk b) (ws : s.size ≤ maxLen) :
    Calls Try.prog 3 #[entB a, entB b, .string s] W fun e w' => e = .returned (.bool true) ∧ Below W.heap.size W w' := by
  by_cases h : s.size ≤ 100
  · exact short a b s W wa wb h
  · exact long a b s W ws (by omega)
end Go.Proofs.Ytjbhahcogdpkpaa.EnTell

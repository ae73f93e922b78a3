/- The walk of PagesMay. -/
import Derived.Test.YtfnppmiapjhjlaaPgExTrue
import Derived.Test.YtfnppmiapjhjlaaPgMayRef
import Derived.Test.YtfnppmiapjhjlaaU64s
import Derived.Test.YtfnppmiapjhjlaaBlMake
import Derived.Deep.RegionHeld3
namespace Go.Proofs.Ytfnppmiapjhjlaa
open Go.RowKit
theorem hold_pg {P : Prop} {W0 W W' : World} (hb : Below W.heap.size W W') (h : Below W0.heap.size W0 W ∧ P) : Below W0.heap.size W0 W' := bj h.1 hb
theorem FilterAt.form {w : World} {f : Value} {t : ByteArray} (h : FilterAt w f t) : ∃ (p n : Int) (m : Option Nat), f = .agg #[.int .i64 p, .int .i64 n, .map m] := by
  rcases h with ⟨_, rfl⟩ | ⟨_, mb, rfl, _⟩
  · exact ⟨0, 0, Option.none, rfl⟩
  · exact ⟨_, _, some mb, rfl⟩
end Go.Proofs.Ytfnppmiapjhjlaa
namespace Go.Proofs.Ytfnppmiapjhjlaa.PgMy
open Go.RowKit
set_option linter.unusedVariables false

theorem long (a : ByteArray) (v : Value) (l : List Nat) (w : World) (hv : RowOf u64V w v l) (h : 3000 < a.size ∨ 30 < l.length) :
    Calls Try.prog 4 #[.string a, v] w fun e w' => e = .returned (.bool true) ∧ Below w.heap.size w w' := by
  obtain ⟨A, c, rfl⟩ := hv.form
  have HE := Lib.hid paged_true
  by_cases h1 : 3000 < a.size
  · have s1 : decide ((3000 : Int) < (a.size : Int)) = true := decide_eq_true (by omega)
    clear h
    go_enter Try.func4, Try.ntmps4
    go_wp2_with fail
    refine (HE.out _).mono ?_
    rintro e w2 ⟨rfl, hb2⟩
    go_wp2
    go_ret
    exact ⟨rfl, hb2⟩
  · have s1 : decide ((3000 : Int) < (a.size : Int)) = false := decide_eq_false (by omega)
    have s2 : decide ((30 : Int) < (l.length : Int)) = true := decide_eq_true (by omega)
    clear h h1
    go_enter Try.func4, Try.ntmps4
    go_wp2_with fail
    refine (HE.out _).mono ?_
    rintro e w2 ⟨rfl, hb2⟩
    go_wp2
    go_ret
    exact ⟨rfl, hb2⟩

set_option maxHeartbeats 4000000 in
theorem short (a : ByteArray) (v : Value) (l : List Nat) (w : World) (hv : RowOf u64V w v l) (wl : Words l) (h1 : a.size ≤ 3000) (h2 : l.length ≤ 30) :
    Calls Try.prog 4 #[.string a, v] w fun e w' => e = .returned (.bool true) ∧ Below w.heap.size w w' := by
  obtain ⟨A, c, rfl⟩ := hv.form
  have HE := Lib.hid paged_true
  have HL := Lib.hid fun W => load_any a W (by omega)
  have HM := Lib.hid fun f (g : Nat) W (hg : g < 18446744073709551616) h => may_any f g a W hg h
  have HR := Lib.hid fun (g : Nat) W (hg : g < 18446744073709551616) => mayr_any a g W hg (by omega)
  have s1 : ¬ (3000 : Int) < (a.size : Int) := by omega
  have s2 : ¬ (30 : Int) < (l.length : Int) := by omega
  have s1' : decide ((3000 : Int) < (a.size : Int)) = false := decide_eq_false s1
  have s2' : decide ((30 : Int) < (l.length : Int)) = false := decide_eq_false s2
  go_enter Try.func4, Try.ntmps4
  go_wp2_with fail
  refine (HL.out _).mono ?_
  rintro e w1 ⟨f, rfl, hf, b1⟩
  obtain ⟨p, n, m, rfl⟩ := hf.form
  have hV := hv.below b1 (Nat.le_refl _)
  have HF := Lib.hid hf
  have HB1 := Lib.hid b1
  clear hf b1 hv
  go_wp2_with fail
  have hB2 := Blok.new w1 28 #[.int .i64 p, .int .i64 n, .map m]
  have hb2 := (Below.refl w1.heap.size w1).alloc (Nat.le_refl _) (.cells #[.int .i64 p, .int .i64 n, .map m] 28)
  obtain ⟨w2, hw2⟩ : ∃ w2, w1.alloc (.cells #[.int .i64 p, .int .i64 n, .map m] 28) = w2 := ⟨_, rfl⟩
  rw [hw2] at hB2 hb2 ⊢
  obtain ⟨fb, hfb⟩ : ∃ fb, w1.heap.size = fb := ⟨_, rfl⟩
  have hF2 := HF.out.below hb2
  have hV2 := hV.below hb2 (Nat.le_refl _)
  have HB2 := Lib.hid (bj HB1.out hb2)
  rw [hfb] at hB2 ⊢
  have HH := Lib.hid (And.intro hB2 hF2)
  have HP := Lib.hid fun W => show Calls Try.prog 13 #[.agg #[.int .i64 0, .int .i64 0, .map Option.none], .int .u64 5] W _ from may_none 5 W
  clear hw2 hfb hb2 hB2 hF2 hV HF HB1
  go_loopw [6] (fun ii wr => ∃ k : Nat, k ≤ l.length ∧ ii = .int .i64 k ∧ Below w2.heap.size w2 wr) (fun ii _ => l.length - (intOf ii).toNat)
  case atStart => exact ⟨0, Nat.zero_le _, rfl, Below.refl _ _⟩
  case round =>
    obtain ⟨k, hk, rfl, hbel⟩ := hrel
    by_cases hlt : k < l.length
    · obtain ⟨q0, off, rfl, hb0, hcap, hcell⟩ := hV2.at (by omega)
      have hcx := fun W (hW : Below w2.heap.size w2 W) => (hW.cell (p := ⟨q0, off + k, none⟩) hb0).trans (hcell k hlt)
      have hg := words_at wl k
      unfold u64V at hcx
      generalize l.getD k 0 = g at *
      have HS : Hid (∀ W, Below wr.heap.size wr W → Below wr.heap.size wr W ∧ W.cell? ⟨fb, 0, none⟩ = some (.int .i64 p) ∧ W.cell? ⟨fb, 1, none⟩ = some (.int .i64 n) ∧ W.cell? ⟨fb, 2, none⟩ = some (.map m) ∧ W.cell? ⟨q0, off + k, none⟩ = some (.int .u64 (g : Nat))) :=
        Lib.hid fun W hW => ⟨hW, (HH.out.1.after (bj hbel hW)).cell 0, (HH.out.1.after (bj hbel hW)).cell 1, (HH.out.1.after (bj hbel hW)).cell 2, hcx W (bj hbel hW)⟩
      have HK1 := Lib.hid fun W (hW : Below wr.heap.size wr W) => HM.out _ g W hg (HH.out.2.below (bj hbel hW))
      have HK2 := Lib.hid fun W => HR.out g W hg
      obtain ⟨-, d0, d1, d2, d3⟩ := HS.out wr (Below.refl _ _)
      have HBL := Lib.hid hbel
      have s3 : (k : Int) < (l.length : Int) := by omega
      generalize mayT a g = q at *
      have e1 : (q != q) = false := by simp
      clear hbel hcx hcell
      go_wp2_with fail
      go_region_held3 (fun W => Below wr.heap.size wr W ∧ W.cell? ⟨fb, 0, none⟩ = some (.int .i64 p) ∧ W.cell? ⟨fb, 1, none⟩ = some (.int .i64 n) ∧ W.cell? ⟨fb, 2, none⟩ = some (.map m) ∧ W.cell? ⟨q0, off + k, none⟩ = some (.int .u64 (g : Nat)))
        (first | (with_reducible assumption) | ((with_reducible refine HS.out _ ?_); (repeat' (first | (with_reducible assumption) | (with_reducible exact Below.refl _ _) | (with_reducible refine Below.drew ?_))); done) | fail)
        (first
        | (go_at_call 13; ((with_reducible refine (HK1.out _ (And.left (by with_reducible assumption))).mono ?_); rintro e w' ⟨rfl, hb⟩; have hB2 := hold_pg hb (by with_reducible assumption)))
        | (go_at_call 14; ((with_reducible refine (HK2.out _).mono ?_); rintro e w' ⟨rfl, hb⟩; have hB2 := hold_pg hb (by with_reducible assumption)))
        | fail)
      all_goals
        go_wp2
        go_roundw
        case rel => exact ⟨k + 1, hlt, by go_num, bj HBL.out (And.left (by with_reducible assumption))⟩
        case measure => simp [intOf]; omega
    · obtain rfl : k = l.length := by omega
      have s3 : ¬ (l.length : Int) < (l.length : Int) := by omega
      have HBZ := Lib.hid (bj HB2.out hbel)
      clear hbel
      go_wp2_with fail
      refine (HP.out _).mono ?_
      rintro e w3 ⟨rfl, b3⟩
      go_wp2_with fail
      refine (HE.out _).mono ?_
      rintro e w4 ⟨rfl, b4⟩
      go_wp2
      go_ret
      exact ⟨rfl, bj (HBZ.out.alloc HBZ.out.size _) (bj b3 b4)⟩

theorem walk (w : World) (a : ByteArray) (v : Value) (l : List Nat) (w0 : a.size ≤ maxLen) (hv : RowOf u64V w v l) (wl : Words l) :
    Calls Try.prog 4 #[.string a, v] w fun e w' => e = .returned (.bool true) ∧ Below w.heap.size w w' := by
  by_cases h : a.size ≤ 3000 ∧ l.length ≤ 30
  · exact short a v l w hv wl h.1 h.2
  · exact long a v l w hv (by omega)
end Go.Proofs.Ytfnppmiapjhjlaa.PgMy

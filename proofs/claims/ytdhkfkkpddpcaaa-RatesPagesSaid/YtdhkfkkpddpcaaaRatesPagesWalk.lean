/- The walk of annalistlaw05.RatesPages. -/
import Derived.Test.YtdhkfkkpddpcaaaRated
import Derived.Deep.DeepCutAuto
namespace Go.Proofs.Ytdhkfkkpddpcaaa.ratesPagesW
open Go.RowKit
set_option linter.unusedVariables false

theorem two_ends (x y : Int) : ∃ a b : Int, a ≤ b ∧ (if y < x then y else x) = a ∧ (if x < y then y else x) = b := ⟨_, _, by split <;> split <;> omega, rfl, rfl⟩
/-- The second array's cells. -/
theorem second (w : World) (o : Obj) (a b : Value) (i : Nat) (hi : i < 2) :
    (((w.alloc o).alloc (Obj.cells #[a, b] 30)).drew).cell? ⟨w.heap.size + 1, i, none⟩ = some (if i = 0 then a else b) := by
  unfold World.cell?
  have hs : (((w.alloc o).alloc (Obj.cells #[a, b] 30)).drew).heap[w.heap.size + 1]? = some (Obj.cells #[a, b] 30) := by
    show ((w.heap.push o).push _)[w.heap.size + 1]? = _
    have e : w.heap.size + 1 = (w.heap.push o).size := by simp
    rw [e, Array.getElem?_push_size]
  rw [hs]
  have h1 : i = 0 ∨ i = 1 := by omega
  rcases h1 with rfl | rfl <;> rfl

/-- The room that the pages have, of numbers within their bounds. -/
theorem room (a c : Int) (h1 : 0 ≤ a) (h2 : a ≤ 10000) (h3 : 1 ≤ c) (h4 : c ≤ 16) :
    ∃ t : Nat, a * c = (t : Int) ∧ t ≤ 160000 ∧ t * 3 / 2 ≤ pagesS a c * 480 ∧ (pagesS a c = 1 ∨ (pagesS a c ≠ 1 ∧ (pagesS a c - 1) * 480 < t * 3 / 2)) := by
  have e1 : a = ((cN a : Nat) : Int) := by unfold cN; split; omega; split <;> omega
  have e2 : c = ((cK c : Nat) : Int) := by unfold cK; split; omega; split <;> omega
  have hr := pagesN_room (cN a) (cK c)
  have hp := prod_le (cN_le a) (cK_le c)
  unfold pagesS bitsS at *
  refine ⟨cN a * cK c, ?_, hp, hr.1, ?_⟩
  · rw [Int.natCast_mul, ← e1, ← e2]
  · by_cases q : pagesN (cN a) (cK c) = 1
    · exact Or.inl q
    · exact Or.inr ⟨q, hr.2.resolve_left q⟩

set_option maxHeartbeats 1000000 in
theorem walk (a0 b0 a1 b1 : Int) (wa0 : (Lit.int .i64 a0).wf = true) (wb0 : (Lit.int .i64 b0).wf = true) (wa1 : (Lit.int .i64 a1).wf = true) (wb1 : (Lit.int .i64 b1).wf = true) (w : World) :
    Calls Try.prog 5 #[.agg #[.int .i64 a0, .int .i64 b0], .agg #[.int .i64 a1, .int .i64 b1]] w fun e w' => e = .returned (.bool true) ∧ Below w.heap.size w w' := by
  clear wa0 wb0 wa1 wb1
  have hb1 := (Below.refl w.heap.size w).alloc (Nat.le_refl _) (Obj.cells #[Value.int .i64 a0, Value.int .i64 b0] 30)
  have hb2 := (hb1.alloc hb1.size (Obj.cells #[Value.int .i64 a1, Value.int .i64 b1] 30)).drew
  clear hb1
  have HS := Lib.hid (fun o => second w o (.int .i64 a1) (.int .i64 b1))
  have HB := Lib.hid hb2
  clear hb2
  go_enter Try.func5, Try.ntmps5
  go_upto_region 1 with fail
  go_cut [5, 6] (fun u v wx => ∃ a b : Int, a ≤ b ∧ u = .int .i64 a ∧ v = .int .i64 b ∧ Below w.heap.size w wx ∧ wx.cell? ⟨w.heap.size + 1, 0, none⟩ = some (.int .i64 a1) ∧ wx.cell? ⟨w.heap.size + 1, 1, none⟩ = some (.int .i64 b1))
  case first =>
    obtain ⟨a, b, h, e1, e2⟩ := two_ends a0 b0
    go_region
    go_step
    go_step
    go_meet
    exact ⟨a, b, h, rfl, rfl, HB.out, HS.out _ 0 (by decide), HS.out _ 1 (by decide)⟩
  case rest =>
    obtain ⟨a, b, hab, rfl, rfl, hb, c1, c2⟩ := hcut
    have HAB := Lib.hid hab
    have HW := Lib.hid hb
    have HD := Lib.hid hb.drew
    clear hab hb HB HS
    go_upto_region 2 with fail
    go_cut [7, 8] (fun u v wx => ∃ a b : Int, a ≤ b ∧ u = .int .i64 a ∧ v = .int .i64 b ∧ Below w.heap.size w wx)
    case first =>
      obtain ⟨c, d, h, e1, e2⟩ := two_ends a1 b1
      go_region
      go_step
      go_step
      go_meet
      exact ⟨c, d, h, rfl, rfl, HD.out⟩
    case rest =>
      obtain ⟨c, d, hcd, rfl, rfl, hb⟩ := hcut
      have HF := Lib.hid hb
      have hab := HAB.out
      clear c1 c2 HW HD hb HAB
      have k1 := Lib.hid (fun w => pages_any a c w)
      have k2 := Lib.hid (fun w => pages_any b c w)
      have k3 := Lib.hid (fun w => pages_any a d w)
      have k4 := Lib.hid (fun w => pages_any b d w)
      have l1 := pagesS_mono hab (Int.le_refl c)
      have l2 := pagesS_mono (Int.le_refl a) hcd
      have l3 := pagesS_mono hab hcd
      obtain ⟨p1, p2⟩ := pagesS_bounds a c
      have HR := Lib.hid (room a c)
      clear hab hcd
      generalize pagesS a c = p at *
      generalize pagesS b c = q1 at *
      generalize pagesS a d = q2 at *
      generalize pagesS b d = q3 at *
      have s1 : ¬ (p : Int) < 1 := by omega
      have s2 : ¬ (500 : Int) < (p : Int) := by omega
      have s3 : ¬ (q1 : Int) < (p : Int) := by omega
      have s4 : ¬ (q2 : Int) < (p : Int) := by omega
      have s5 : ¬ (q3 : Int) < (p : Int) := by omega
      have hcase : a < 0 ∨ (0 ≤ a ∧ 10000 < a) ∨ (0 ≤ a ∧ a ≤ 10000 ∧ c < 1) ∨ (0 ≤ a ∧ a ≤ 10000 ∧ 1 ≤ c ∧ 16 < c) ∨ (0 ≤ a ∧ a ≤ 10000 ∧ 1 ≤ c ∧ c ≤ 16) := by omega
      rcases hcase with h1 | ⟨h1, h2⟩ | ⟨h1, h2, h3⟩ | ⟨h1, h2, h3, h4⟩ | ⟨h1, h2, h3, h4⟩
      case inr.inr.inr.inr =>
        obtain ⟨t, ht, t1, t2, t3⟩ := HR.out h1 h2 h3 h4
        clear HR
        have u1 : (p : Int) * 480 ≤ 240000 := by omega
        have u2 : (0 : Int) ≤ (p : Int) * 480 := by omega
        have u3 : (t : Int) * 3 ≤ 480000 := by omega
        have u4 : (0 : Int) ≤ (t : Int) * 3 := by omega
        have u5 : (t : Int) * 3 / 2 ≤ (p : Int) * 480 := by omega
        rcases t3 with rfl | t3
        · go_wp2_with fail
          refine (k1.out _).mono ?_
          rintro e w' ⟨rfl, rfl⟩
          go_wp2_with fail
          refine (k2.out _).mono ?_
          rintro e w' ⟨rfl, rfl⟩
          go_wp2_with fail
          refine (k3.out _).mono ?_
          rintro e w' ⟨rfl, rfl⟩
          go_wp2_with fail
          refine (k4.out _).mono ?_
          rintro e w' ⟨rfl, rfl⟩
          go_wp2_with fail
          refine (rated_true _).mono ?_
          rintro e w' ⟨rfl, rfl⟩
          go_wp2
          go_ret
          exact ⟨rfl, HF.out⟩
        · have u6 : ((p : Int) == 1) = false := beq_eq_false_iff_ne.2 (by omega)
          have u7 : ((p : Int) - 1) * 480 < (t : Int) * 3 / 2 := by omega
          clear t3
          go_wp2_with fail
          refine (k1.out _).mono ?_
          rintro e w' ⟨rfl, rfl⟩
          go_wp2_with fail
          refine (k2.out _).mono ?_
          rintro e w' ⟨rfl, rfl⟩
          go_wp2_with fail
          refine (k3.out _).mono ?_
          rintro e w' ⟨rfl, rfl⟩
          go_wp2_with fail
          refine (k4.out _).mono ?_
          rintro e w' ⟨rfl, rfl⟩
          go_wp2_with fail
          refine (rated_true _).mono ?_
          rintro e w' ⟨rfl, rfl⟩
          go_wp2
          go_ret
          exact ⟨rfl, HF.out⟩
      all_goals
        clear HR
        go_wp2_with fail
        refine (k1.out _).mono ?_
        rintro e w' ⟨rfl, rfl⟩
        go_wp2_with fail
        refine (k2.out _).mono ?_
        rintro e w' ⟨rfl, rfl⟩
        go_wp2_with fail
        refine (k3.out _).mono ?_
        rintro e w' ⟨rfl, rfl⟩
        go_wp2_with fail
        refine (k4.out _).mono ?_
        rintro e w' ⟨rfl, rfl⟩
        go_wp2_with fail
        refine (rated_true _).mono ?_
        rintro e w' ⟨rfl, rfl⟩
        go_wp2
        go_ret
        exact ⟨rfl, HF.out⟩
end Go.Proofs.Ytdhkfkkpddpcaaa.ratesPagesW

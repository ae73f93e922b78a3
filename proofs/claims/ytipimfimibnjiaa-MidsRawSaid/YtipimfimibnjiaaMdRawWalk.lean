/- 'MidsRaw': the walk. -/
import Derived.Test.YtipimfimibnjiaaMdEx
namespace Go.Proofs.Ytipimfimibnjiaa
open Go.RowKit Go.Shelf
set_option linter.unusedVariables false
attribute [local go_sem ↓] Go.wp_at_zero Go.wp_at_succ

namespace midsRaw
set_option maxHeartbeats 2000000 in
set_option maxRecDepth 100000 in
theorem walk_ (w : World) (v : Value) (m : List MidS) (many : Int) (x : EntS) (hm : MidsIn w v m) :
    Calls Try.prog 6 #[v, .int .i64 many, entB x] w (MidEnd w) := by
  have HMI := Lib.hid fun W => middle_true W
  have hb1 := (Below.refl w.heap.size w).alloc (Nat.le_refl _) (.cells #[.int .u64 (x.h : Nat), .int .i64 x.v, .int .i64 x.p] 29)
  have E1 := Blok.new w 29 #[.int .u64 (x.h : Nat), .int .i64 x.v, .int .i64 x.p]
  obtain ⟨w1, hw1⟩ : ∃ w1, w.alloc (.cells #[.int .u64 (x.h : Nat), .int .i64 x.v, .int .i64 x.p] 29) = w1 := ⟨_, rfl⟩
  rw [hw1] at hb1 E1
  have k0 := E1.cell 0
  have k1 := E1.cell 1
  have k2 := E1.cell 2
  have HB1 := Lib.hid hb1
  obtain ⟨A0, off, cap, hv, -, -⟩ := hm.form
  by_cases hn : m.length ≤ 100
  case neg =>
    subst hv
    have t1 : decide ((100 : Int) < (m.length : Int)) = true := decide_eq_true (by omega)
    have t2 : (100 : Int) < (m.length : Int) := by omega
    have t3 : 100 < m.length := by omega
    clear hm hn E1 hb1
    generalize m.length = n at *
    obtain ⟨xh, xv, xp⟩ := x
    go_enter Try.func6, Try.ntmps6
    go_wp2_with fail
    refine (HMI.out w1).mono ?_
    rintro e w3 ⟨rfl, hb3⟩
    go_wp2
    go_ret
    exact ⟨rfl, bj HB1.out hb3⟩
  obtain ⟨mx, hmx⟩ : ∃ mx, (if 0 > many then 0 else many) = mx := ⟨_, rfl⟩
  have hmx0 : 0 ≤ mx := by subst hmx; split <;> omega
  have HN := Lib.hid (narrow_any v m many x w1 (hm.below hb1 (Nat.le_refl _)) (by omega))
  have hok := withinM_ok (lo := (scanM x m 0 (max many 0)).1) (hi := (scanM x m 0 (max many 0)).2) (many := max many 0) (by omega)
  rw [show withinM (scanM x m 0 (max many 0)).1 (scanM x m 0 (max many 0)).2 (max many 0) = narM x m many from rfl, show max many 0 = mx by subst hmx; split <;> omega] at hok
  generalize narM x m many = R at *
  obtain ⟨lo, hi⟩ := R
  unfold NarEnd at HN
  simp only at hok HN
  obtain ⟨o1, o2, o3⟩ := hok
  have t1 : decide ((100 : Int) < (m.length : Int)) = false := decide_eq_false (by omega)
  have t2 : ¬ (100 : Int) < (m.length : Int) := by omega
  have t3 : decide (100 < m.length) = false := decide_eq_false (by omega)
  subst hv
  clear hm hn E1 hb1 hmx0
  generalize m.length = n at *
  obtain ⟨xh, xv, xp⟩ := x
  simp only at HN k0 k1 k2
  go_enter Try.func6, Try.ntmps6
  go_wp2_with fail
  refine HN.out.mono ?_
  rintro e w2 ⟨rfl, hb2⟩
  have HB2 := Lib.hid (bj HB1.out hb2)
  clear hb2 HN k0 k1 k2
  go_wp2_with fail
  refine (HMI.out w2).mono ?_
  rintro e w3 ⟨rfl, hb3⟩
  go_wp2
  go_ret
  exact ⟨rfl, bj HB2.out hb3⟩
theorem walk (w : World) (v : Value) (m : List MidS) (many : Int) (x : EntS) (hm : MidsIn w v m) (hok : ∀ x ∈ m, MidOk x) (wm : (Lit.int .i64 many).wf = true) (hx : EntOk x) :
    Calls Try.prog 6 #[v, .int .i64 many, entB x] w fun e w' => e = .returned (.bool true) ∧ Below w.heap.size w w' := walk_ w v m many x hm
end midsRaw
end Go.Proofs.Ytipimfimibnjiaa

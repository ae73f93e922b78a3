/- 'MidsMake': the walk. -/
import Derived.Test.YtipimfimibnjiaaMdEx
import Derived.BigQuiet
namespace Go.Proofs.Ytipimfimibnjiaa
open Go.RowKit Go.Shelf
set_option linter.unusedVariables false
attribute [local go_sem ↓] Go.wp_at_zero Go.wp_at_succ

namespace midsMake
set_option maxHeartbeats 2000000 in
set_option maxRecDepth 100000 in
theorem walk_ (w : World) (v : Value) (l : List EntS) (hl : EntsIn w v l) :
    Calls Try.prog 3 #[v] w (MidEnd w) := by
  have HMI := Lib.hid fun W => middle_true W
  obtain ⟨A0, off, cap, hv, -, hcell⟩ := hl.form
  by_cases hn : l.length ≤ 200
  case neg =>
    subst hv
    have t1 : decide ((200 : Int) < (l.length : Int)) = true := decide_eq_true (by omega)
    have t2 : (200 : Int) < (l.length : Int) := by omega
    have t3 : 200 < l.length := by omega
    clear hl hn hcell
    generalize l.length = n at *
    go_enter Try.func3, Try.ntmps3
    go_wp2_with fail
    refine (HMI.out w).mono ?_
    rintro e w3 ⟨rfl, hb3⟩
    go_wp2
    go_ret
    exact ⟨rfl, hb3⟩
  obtain ⟨A1, c1, w1, e1, e2, e3, -⟩ := ents_append (EntRow.nil w w.heap.size) hl (by simp; omega) (Nat.le_refl _) 22
  simp only [List.length_nil, Nat.zero_add, List.nil_append] at e1 e2
  have hb1 : Below w.heap.size w w1 := grown_below e3 (Nat.le_refl _) (fun k hk => by cases hk)
  have HIN1 := Lib.hid (EntRow.in_ e2)
  have HM1 := Lib.hid (mmake_any _ _ w1 HIN1.out (by omega))
  have HM2 := Lib.hid (show ∀ W, Below w1.heap.size w1 W → Calls Try.prog 11 #[v] W (MidsOut W (midsL l)) from fun W hW => mmake_ref v l W (hl.below (bj hb1 hW) (Nat.le_refl _)) (by omega))
  have hml : (midsL l).length ≤ 1000000 := by have := midsTo_length l l.length; unfold midsL; omega
  have HML := Lib.hid hml
  have HCO := Lib.hid (show ∀ W, Below w.heap.size w W → EntsIn W v l from fun W hW => hl.below hW (Nat.le_refl _))
  have HB1 := Lib.hid hb1
  have HE1 := Lib.hid e1
  obtain ⟨n, hnn⟩ : ∃ n, n = l.length := ⟨_, rfl⟩
  have HN := Lib.hid hnn
  have t1 : decide ((200 : Int) < (l.length : Int)) = false := decide_eq_false (by omega)
  have t2 : ¬ (200 : Int) < (l.length : Int) := by omega
  have t3 : decide (200 < l.length) = false := decide_eq_false (by omega)
  subst hv
  rw [← hnn] at HE1 HM1 HM2 HCO HIN1 hn t1 t2 t3 ⊢
  clear hl hb1 e1 e2 e3 hml hcell hnn
  generalize midsL l = M at *
  go_enter Try.func3, Try.ntmps3
  go_wp2_with (first | (at_builtin; refine wpList_append_two rfl _ _ rfl rfl rfl HE1.out ?_) | fail)
  refine HM1.out.mono ?_
  rintro e w2 ⟨A2, c2, rfl, r2, b2⟩
  have R2 := Lib.hid (MidRow.in_ r2)
  go_wp2_with fail
  refine (HM2.out w2 b2).mono ?_
  rintro e w3 ⟨A3, c3, rfl, r3, b3⟩
  have HS := Lib.hid (msame_kept (q := true) (R2.out.below b3 (Nat.le_refl _)) (MidRow.in_ r3) HML.out HML.out (decide_eq_true rfl))
  have B3 := Lib.hid (bj b2 b3)
  clear r2 r3 b2 b3 R2 HML
  generalize M.length = ml at *
  go_wp2_with fail
  refine HS.out.mono ?_
  rintro e w4 ⟨rfl, b4⟩
  have B4 := Lib.hid (bj B3.out b4)
  have FA := Lib.hid ((HCO.out w4 (bj HB1.out B4.out)).form)
  have FB := Lib.hid ((HIN1.out.below B4.out (Nat.le_refl _)).form)
  clear b4 HS
  go_wp2
  go_loopw [4] (fun i wr => ∃ k m : Nat, k ≤ n ∧ i = .int .i64 k ∧ wr = w4.drewN m) (fun i _ => n - (intOf i).toNat)
  case atStart => exact ⟨0, 0, Nat.zero_le _, rfl, rfl⟩
  case round =>
    obtain ⟨k, m, hk, rfl, rfl⟩ := hrel
    by_cases hlt : k < n
    · have l1 : (k : Int) < (n : Int) := by omega
      obtain ⟨x, hx⟩ : ∃ x, l[k]? = some x := ⟨_, List.getElem?_eq_getElem (by rw [← HN.out]; exact hlt)⟩
      obtain ⟨a', oa, ca, ea, -, fa⟩ := FA.out
      obtain ⟨b', ob, cb, eb, -, fb⟩ := FB.out
      obtain ⟨rfl, -, rfl⟩ := Value.slice.inj ea
      obtain ⟨rfl, -, rfl⟩ := Value.slice.inj eb
      obtain ⟨ba, rfl, -, d0, d1, d2⟩ := fa k _ hx
      obtain ⟨bb, rfl, -, g0, g1, g2⟩ := fb k _ hx
      have hne := fun w => ent_neq x x w
      rw [decide_eq_true rfl] at hne
      clear hx fa fb ea eb FA FB HE1 HM1 HM2 HCO HIN1
      obtain ⟨xh, xv, xp⟩ := x
      simp only at d0 d1 d2 g0 g1 g2 hne
      go_wp2
      go_quiet (fail)
      go_wp2
      exact ⟨⟨k + 1, _, by omega, by go_num, rfl⟩, by simp [intOf]; omega⟩
    · have l1 : decide ((k : Int) < (n : Int)) = false := decide_eq_false (by omega)
      have l2 : decide (k < n) = false := decide_eq_false (by omega)
      clear hlt HE1
      go_wp2_with fail
      refine (HMI.out _).mono ?_
      rintro e w5 ⟨rfl, hb5⟩
      go_wp2
      go_ret
      exact ⟨rfl, bj (below_drewN (bj HB1.out B4.out) m) hb5⟩
theorem walk (w : World) (v : Value) (l : List EntS) (hl : EntsIn w v l) (hok : ∀ x ∈ l, EntOk x) :
    Calls Try.prog 3 #[v] w fun e w' => e = .returned (.bool true) ∧ Below w.heap.size w w' := walk_ w v l hl
end midsMake
end Go.Proofs.Ytipimfimibnjiaa

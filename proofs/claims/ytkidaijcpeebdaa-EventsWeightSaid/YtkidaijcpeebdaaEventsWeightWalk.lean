/- The walk of EventsWeight. -/
import Derived.Test.YtkidaijcpeebdaaEventsTwo
import Derived.Test.YtkidaijcpeebdaaEventsBytes
namespace Go.Proofs.Ytkidaijcpeebdaa.EvWeight
open Go.RowKit
set_option linter.unusedVariables false
attribute [local go_sem] run_store_float

theorem great_one (t d : ByteArray) (b : Nat) (y : Nat) (w : World) (ht : t.size ≤ maxLen) (hd : d.size ≤ maxLen) (h : grt t d = true) :
    Calls Try.prog 8 #[.agg #[.string t, .string d, .int .u64 (b : Nat)], .int .u8 (y : Nat)] w fun e w' => e = .returned (.bool true) ∧ Below w.heap.size w w' := by
  have HG := fun W => great_any t d b W ht hd
  rw [h] at HG
  have HG1 := Lib.hid HG
  have hbw := (Below.refl w.heap.size w).alloc (Nat.le_refl _) (.cells #[.string t, .string d, .int .u64 (b : Nat)] 24)
  clear HG h ht hd
  go_enter Try.func8, Try.ntmps8
  go_wp2_with fail
  refine (HG1.out _).mono ?_
  rintro e w1 ⟨rfl, hb1⟩
  go_wp2_with fail
  refine (happened_true _).mono ?_
  rintro e w2 ⟨rfl, hb2⟩
  go_wp2
  go_ret
  exact ⟨rfl, bj hbw (bj hb1 hb2)⟩

theorem flip_walk (x b : Nat) (hx : x < 18446744073709551616) (hb : b < 64) : bits .xor .u64 (x : Int) (IntKind.u64.wrap (2 ^ b)) = ((x ^^^ 2 ^ b : Nat) : Int) ∧ x ^^^ 2 ^ b < 18446744073709551616 ∧ ¬ x = x ^^^ 2 ^ b := by
  have h2 : 2 ^ b < 18446744073709551616 := Nat.pow_lt_pow_right (by decide) hb (m := b) (n := 64)
  have e : IntKind.u64.wrap (2 ^ b) = ((2 ^ b : Nat) : Int) := by
    have e2 : (2 : Int) ^ b = ((2 ^ b : Nat) : Int) := by rw [Int.natCast_pow]; rfl
    rw [IntKind.wrap_u64, e2]
    generalize 2 ^ b = p at *
    omega
  rw [e]
  refine ⟨u64_xor_nat x _ hx h2, Nat.xor_lt_two_pow (n := 64) hx h2, fun q => ?_⟩
  have h3 : 2 ^ b = 0 := by
    have := congrArg (fun z => x ^^^ z) q
    simp only [← Nat.xor_assoc, Nat.xor_self, Nat.zero_xor] at this
    exact this.symm
  have := Nat.two_pow_pos b
  omega

/-- The bytes of two events that are alike but for their Weight. -/
theorem two_bytes (t d : ByteArray) (b b' : Nat) (hk : chk t d = 0) (hb : b < 18446744073709551616) (hb' : b' < 18446744073709551616) (hne : ¬ b = b') :
    (evB t d b').size = (evB t d b).size ∧ 12 ≤ (evB t d b).size ∧ (evB t d b).size ≤ 300 ∧ (evB t d b).extract 0 ((evB t d b).size - 8) = (evB t d b').extract 0 ((evB t d b).size - 8) ∧ ¬ evB t d b = evB t d b' := by
  have hz := chk_zero.1 hk
  have s1 := evB_size t d b
  have s2 := evB_size t d b'
  have hcut : ∀ c, (evB t d c).extract 0 (t.size + d.size + 4) = bs (be 2 t.size) ++ t ++ (bs (be 2 d.size) ++ d) := fun c => by
    have hz : (bs (be 2 t.size) ++ t ++ (bs (be 2 d.size) ++ d)).size = t.size + d.size + 4 := by simp only [ByteArray.size_append, bs_size, be_length]; omega
    unfold evB
    apply ByteArray.ext
    apply Array.toList_inj.1
    rw [ByteArray.data_extract, Array.toList_extract, ByteArray.data_append, Array.toList_append, List.extract, List.drop_zero, Nat.sub_zero, List.take_left' (by rw [data_len, hz])]
  refine ⟨by omega, by omega, by omega, ?_, fun q => hne ?_⟩
  · rw [s1, show t.size + d.size + 12 - 8 = t.size + d.size + 4 by omega, hcut, hcut]
  · obtain ⟨_, _, _, e4, _⟩ := er_back t d b ByteArray.empty hk hb
    obtain ⟨_, _, _, f4, _⟩ := er_back t d b' ByteArray.empty hk hb'
    rw [← q, e4] at f4
    exact f4

set_option maxHeartbeats 4000000 in
set_option maxRecDepth 100000 in
theorem small (t d : ByteArray) (b b' : Nat) (y : Nat) (w : World) (ht : t.size ≤ 1000) (hd : d.size ≤ 1000) (hb : b < 18446744073709551616) (hb' : b' < 18446744073709551616) (hne : ¬ b = b') (hy : y < 256)
    (hx : bits .xor .u64 (b : Int) (IntKind.u64.wrap (2 ^ (y % 64))) = (b' : Int)) :
    Calls Try.prog 8 #[.agg #[.string t, .string d, .int .u64 (b : Nat)], .int .u8 (y : Nat)] w fun e w' => e = .returned (.bool true) ∧ Below w.heap.size w w' := by
  have HG := fun W => great_any t d b W (by unfold maxLen; omega) (by unfold maxLen; omega)
  have g1 : grt t d = false := by simp [grt]; omega
  rw [g1] at HG
  have HG1 := Lib.hid HG
  clear HG g1
  have R1 := RawAt.new w t d b
  have hbw := (Below.refl w.heap.size w).alloc (Nat.le_refl _) (.cells #[.string t, .string d, .int .u64 (b : Nat)] 24)
  go_enter Try.func8, Try.ntmps8
  go_wp2_with fail
  refine (HG1.out _).mono ?_
  rintro e w1 ⟨rfl, hb1⟩
  have R11 := R1.below hb1
  have k0 := R11.c0
  have k1 := R11.c1
  have k2 := R11.c2
  have hbw1 := bj hbw hb1
  clear R1
  have R12 := R11.alloc (.cells #[.string t, .string d, .int .u64 (b' : Nat)] 24)
  have R22 := RawAt.new w1 t d b'
  have hbw2 := hbw1.alloc hbw1.size (.cells #[.string t, .string d, .int .u64 (b' : Nat)] 24)
  go_upto_region 5 with fail
  generalize hW : w1.alloc (.cells #[.string t, .string d, .int .u64 (b' : Nat)] 24) = w2 at *
  clear hW R11 k0 k1 k2 hbw hbw1 hb1 hx hy HG1
  generalize w1.heap.size = gq at *
  go_cut [6, 7] (fun u v wx => ∃ g5 g6 : Nat, u = .pointer (some ⟨g5, 0, none⟩) ∧ v = .pointer (some ⟨g6, 0, none⟩) ∧ EvC wx g5 t d b ∧ EvC wx g6 t d b' ∧ Below w.heap.size w wx)
  case first =>
    clear ht hd
    have k0 := R12.c0
    have k1 := R12.c1
    have k2 := R12.c2
    have j0 := R22.c0
    have j1 := R22.c1
    have j2 := R22.c2
    have l1 := R12.lt
    have l2 := R22.lt
    clear R12 R22
    have HS : Hid (∀ W, Below w2.heap.size w2 W → Below w2.heap.size w2 W ∧ W.cell? ⟨w.heap.size, 0, none⟩ = some (.string t) ∧ W.cell? ⟨w.heap.size, 1, none⟩ = some (.string d) ∧ W.cell? ⟨w.heap.size, 2, none⟩ = some (.int .u64 (b : Nat)) ∧
        W.cell? ⟨gq, 0, none⟩ = some (.string t) ∧ W.cell? ⟨gq, 1, none⟩ = some (.string d) ∧ W.cell? ⟨gq, 2, none⟩ = some (.int .u64 (b' : Nat))) :=
      Lib.hid fun W hW => ⟨hW, keep_cell hW l1 k0, keep_cell hW l1 k1, keep_cell hW l1 k2, keep_cell hW l2 j0, keep_cell hW l2 j1, keep_cell hW l2 j2⟩
    have H1 := Lib.hid fun W => event_any t d b W
    have H2 := Lib.hid fun W => event_any t d b' W
    go_region_held3 (fun W => Below w2.heap.size w2 W ∧ W.cell? ⟨w.heap.size, 0, none⟩ = some (.string t) ∧ W.cell? ⟨w.heap.size, 1, none⟩ = some (.string d) ∧ W.cell? ⟨w.heap.size, 2, none⟩ = some (.int .u64 (b : Nat)) ∧
        W.cell? ⟨gq, 0, none⟩ = some (.string t) ∧ W.cell? ⟨gq, 1, none⟩ = some (.string d) ∧ W.cell? ⟨gq, 2, none⟩ = some (.int .u64 (b' : Nat)))
      (first | (with_reducible assumption) | ((with_reducible refine HS.out _ ?_); (repeat' (first | (with_reducible assumption) | (with_reducible exact Below.refl _ _) | (with_reducible refine own_alloc ?_) | (with_reducible refine own_set ?_ ?_) | (with_reducible refine Below.drew ?_) | omega)); done) | fail)
      (first
      | (go_at_call 11; ((with_reducible refine (H1.out _).mono ?_); rintro e w3 ⟨rfl, hb3⟩; have hz3 := hb3.size; (with_reducible (try (have A1 := (Blk3.new _ _ _ _ _).drew.below hb3; (try simp only [World.size_alloc] at A1); (try simp only [World.size_drew] at A1); obtain ⟨A1c0, A1c1, A1c2, A1f0, A1f1, A1f2, A1lt⟩ := A1.facts)); (try (have A2 := ((Blk3.new _ _ _ _ _).alloc _).drew.below hb3; (try simp only [World.size_alloc] at A2); (try simp only [World.size_drew] at A2); obtain ⟨A2c0, A2c1, A2c2, A2f0, A2f1, A2f2, A2lt⟩ := A2.facts))); have hB3 := hold_call (W0 := w2) hb3 (by with_reducible assumption); have hy3 := hB3.size))
      | (go_at_call 11; ((with_reducible refine (H2.out _).mono ?_); rintro e w4 ⟨rfl, hb4⟩; have hz4 := hb4.size; (with_reducible (try (have A3 := A1.below hb4; (try simp only [World.size_alloc] at A3); (try simp only [World.size_drew] at A3); obtain ⟨A3c0, A3c1, A3c2, A3f0, A3f1, A3f2, A3lt⟩ := A3.facts)); (try (have A4 := A2.below hb4; (try simp only [World.size_alloc] at A4); (try simp only [World.size_drew] at A4); obtain ⟨A4c0, A4c1, A4c2, A4f0, A4f1, A4f2, A4lt⟩ := A4.facts)); (try (have A5 := (A1.alloc _).below hb4; (try simp only [World.size_alloc] at A5); (try simp only [World.size_drew] at A5); obtain ⟨A5c0, A5c1, A5c2, A5f0, A5f1, A5f2, A5lt⟩ := A5.facts)); (try (have A6 := (Blk3.new _ _ _ _ _).below hb4; (try simp only [World.size_alloc] at A6); (try simp only [World.size_drew] at A6); obtain ⟨A6c0, A6c1, A6c2, A6f0, A6f1, A6f2, A6lt⟩ := A6.facts)); (try (have A7 := ((Blk3.new _ _ _ _ _).alloc _).below hb4; (try simp only [World.size_alloc] at A7); (try simp only [World.size_drew] at A7); obtain ⟨A7c0, A7c1, A7c2, A7f0, A7f1, A7f2, A7lt⟩ := A7.facts))); have hB4 := hold_call (W0 := w2) hb4 (by with_reducible assumption); have hy4 := hB4.size))
      | fail)
    all_goals
      go_step
      go_step
      go_meet
      refine ⟨_, _, rfl, rfl, ?_, ?_, held_on hbw2 (by with_reducible assumption)⟩
      all_goals
        unfold EvC
        refine ⟨?_, ?_, ?_, ?_⟩
        · go_simp
        · go_simp
        · go_simp
        · first | (simp; done) | (simp; omega) | omega
  case rest =>
    obtain ⟨g5, g6, rfl, rfl, ⟨k0, k1, k2, l5⟩, ⟨j0, j1, j2, l6⟩, hbc⟩ := hcut
    clear R12 R22 hbw2
    have HS : Hid (∀ W, Below wc.heap.size wc W → Below wc.heap.size wc W ∧ W.cell? ⟨g5, 0, none⟩ = some (.string t) ∧ W.cell? ⟨g5, 1, none⟩ = some (.string d) ∧ W.cell? ⟨g5, 2, none⟩ = some (.float .f64 b) ∧ W.cell? ⟨g6, 0, none⟩ = some (.string t) ∧ W.cell? ⟨g6, 1, none⟩ = some (.string d) ∧ W.cell? ⟨g6, 2, none⟩ = some (.float .f64 b')) := Lib.hid fun W hW => ⟨hW, keep_cell hW l5 k0, keep_cell hW l5 k1, keep_cell hW l5 k2, keep_cell hW l6 j0, keep_cell hW l6 j1, keep_cell hW l6 j2⟩
    have HC := Lib.hid fun W (h : Below wc.heap.size wc W ∧ W.cell? ⟨g5, 0, none⟩ = some (.string t) ∧ W.cell? ⟨g5, 1, none⟩ = some (.string d) ∧ W.cell? ⟨g5, 2, none⟩ = some (.float .f64 b) ∧ W.cell? ⟨g6, 0, none⟩ = some (.string t) ∧ W.cell? ⟨g6, 1, none⟩ = some (.string d) ∧ W.cell? ⟨g6, 2, none⟩ = some (.float .f64 b')) => (check_any t d b W (by unfold maxLen; omega) (by unfold maxLen; omega)).mono fun e w' ⟨he, hb⟩ => (⟨he, bj h.1 hb⟩ : _ ∧ Below wc.heap.size wc w')
    have HC2 := Lib.hid fun W (h : Below wc.heap.size wc W ∧ W.cell? ⟨g5, 0, none⟩ = some (.string t) ∧ W.cell? ⟨g5, 1, none⟩ = some (.string d) ∧ W.cell? ⟨g5, 2, none⟩ = some (.float .f64 b) ∧ W.cell? ⟨g6, 0, none⟩ = some (.string t) ∧ W.cell? ⟨g6, 1, none⟩ = some (.string d) ∧ W.cell? ⟨g6, 2, none⟩ = some (.float .f64 b')) => (check_any t d b' W (by unfold maxLen; omega) (by unfold maxLen; omega)).mono fun e w' ⟨he, hb⟩ => (⟨he, bj h.1 hb⟩ : _ ∧ Below wc.heap.size wc w')
    have hms := fun W => same_any t d b t d b' W hb hb'
    rw [show evEq t d b t d b' = false by simp [evEq, hne]] at hms
    have HM := Lib.hid fun W (h : Below wc.heap.size wc W ∧ W.cell? ⟨g5, 0, none⟩ = some (.string t) ∧ W.cell? ⟨g5, 1, none⟩ = some (.string d) ∧ W.cell? ⟨g5, 2, none⟩ = some (.float .f64 b) ∧ W.cell? ⟨g6, 0, none⟩ = some (.string t) ∧ W.cell? ⟨g6, 1, none⟩ = some (.string d) ∧ W.cell? ⟨g6, 2, none⟩ = some (.float .f64 b')) => (hms W).mono fun e w' ⟨he, hb⟩ => (⟨he, bj h.1 hb⟩ : _ ∧ Below wc.heap.size wc w')
    have HH := Lib.hid fun W (h : Below wc.heap.size wc W) => (happened_true W).mono fun e w' ⟨he, hb⟩ => (⟨he, bj h hb⟩ : _ ∧ Below wc.heap.size wc w')
    by_cases hk : chk t d = 0
    · have HB := Lib.hid fun W (h : Below wc.heap.size wc W ∧ W.cell? ⟨g5, 0, none⟩ = some (.string t) ∧ W.cell? ⟨g5, 1, none⟩ = some (.string d) ∧ W.cell? ⟨g5, 2, none⟩ = some (.float .f64 b) ∧ W.cell? ⟨g6, 0, none⟩ = some (.string t) ∧ W.cell? ⟨g6, 1, none⟩ = some (.string d) ∧ W.cell? ⟨g6, 2, none⟩ = some (.float .f64 b')) => (bytes_yes t d b W hb hk).mono fun e w' ⟨he, hb⟩ => (⟨he, bj h.1 hb⟩ : _ ∧ Below wc.heap.size wc w')
      have HB2 := Lib.hid fun W (h : Below wc.heap.size wc W ∧ W.cell? ⟨g5, 0, none⟩ = some (.string t) ∧ W.cell? ⟨g5, 1, none⟩ = some (.string d) ∧ W.cell? ⟨g5, 2, none⟩ = some (.float .f64 b) ∧ W.cell? ⟨g6, 0, none⟩ = some (.string t) ∧ W.cell? ⟨g6, 1, none⟩ = some (.string d) ∧ W.cell? ⟨g6, 2, none⟩ = some (.float .f64 b')) => (bytes_yes t d b' W hb' hk).mono fun e w' ⟨he, hb⟩ => (⟨he, bj h.1 hb⟩ : _ ∧ Below wc.heap.size wc w')
      obtain ⟨z1, z2, z3, z4, z5⟩ := two_bytes t d b b' hk hb hb' hne
      rw [hk] at HC HC2
      have e4 := txt_eq z4
      have e5 : (!((evB t d b).toList == (evB t d b').toList)) = true := by rw [txt_ne z5]; rfl
      have e5' : ((evB t d b).toList != (evB t d b').toList) = true := by simpa using txt_ne z5
      generalize evB t d b = B at *
      generalize evB t d b' = B2 at *
      have d1 : decide ((B.size : Int) - 8 < 0) = false := by simp; omega
      have x1 : (0 : Int) ≤ (B.size : Int) - 8 := by omega
      have x4 : (8 : Int) ≤ (B.size : Int) := by omega
      have x2 : (B.size : Int) - 8 ≤ B.size := by omega
      have x3 : ((B.size : Int) - 8).toNat = B.size - 8 := by omega
      have x5 : IntKind.i64.wrap ((B.size : Int) - 8) = (B.size : Int) - 8 := IntWalk.i64_in _ (by omega)
      have HX := Lib.hid (And.intro x5 (And.intro z1 (And.intro e4 (And.intro e5 (And.intro e5' (And.intro d1 x3))))))
      clear hms hk hb hb' hne ht hd z4 z5 z1 e4 e5 e5' d1 x3 x5
      go_wp2_with fail
      go_region_held3 (fun W => Below wc.heap.size wc W ∧ W.cell? ⟨g5, 0, none⟩ = some (.string t) ∧ W.cell? ⟨g5, 1, none⟩ = some (.string d) ∧ W.cell? ⟨g5, 2, none⟩ = some (.float .f64 b) ∧ W.cell? ⟨g6, 0, none⟩ = some (.string t) ∧ W.cell? ⟨g6, 1, none⟩ = some (.string d) ∧ W.cell? ⟨g6, 2, none⟩ = some (.float .f64 b'))
        (first | (with_reducible assumption) | ((with_reducible refine HS.out _ ?_); (first | (with_reducible assumption) | (with_reducible exact Below.refl _ _) | (with_reducible exact (Below.refl _ _).drew)); done) | fail)
        (first
        | (go_at_call 14; ((with_reducible refine (HB.out _ (by with_reducible assumption)).mono ?_); rintro e w6 ⟨rfl, hb⟩))
        | (go_at_call 14; ((with_reducible refine (HB2.out _ (by with_reducible assumption)).mono ?_); rintro e w6 ⟨rfl, hb⟩))
        | fail)
      all_goals
        have hbq : Below wc.heap.size wc w6 := And.left ‹Below wc.heap.size wc w6 ∧ _›
        go_wp2_with fail
        go_region_held3 (fun W => Below wc.heap.size wc W ∧ W.cell? ⟨g5, 0, none⟩ = some (.string t) ∧ W.cell? ⟨g5, 1, none⟩ = some (.string d) ∧ W.cell? ⟨g5, 2, none⟩ = some (.float .f64 b) ∧ W.cell? ⟨g6, 0, none⟩ = some (.string t) ∧ W.cell? ⟨g6, 1, none⟩ = some (.string d) ∧ W.cell? ⟨g6, 2, none⟩ = some (.float .f64 b'))
          (first | (with_reducible assumption) | ((with_reducible refine HS.out _ ?_); (first | (with_reducible assumption) | (with_reducible exact hbq) | (with_reducible exact (hbq).drew)); done) | fail)
          (first
          | (go_at_call 16; ((with_reducible refine (HM.out _ (by with_reducible assumption)).mono ?_); rintro e w7 ⟨rfl, hb⟩))
          | (go_at_call 12; ((with_reducible refine (HC.out _ (by with_reducible assumption)).mono ?_); rintro e w7 ⟨rfl, hb⟩))
          | (go_at_call 12; ((with_reducible refine (HC2.out _ (by with_reducible assumption)).mono ?_); rintro e w7 ⟨rfl, hb⟩))
          | fail)
        all_goals
          have hbq7 : Below wc.heap.size wc w7 := And.left ‹Below wc.heap.size wc w7 ∧ _›
          clear k0 k1 k2 j0 j1 j2
          have C7 := HS.out _ hbq7
          obtain ⟨-, k0, k1, k2, j0, j1, j2⟩ := id C7
          go_wp2_with fail
          refine (HC.out _ C7).mono ?_
          rintro e w9 ⟨rfl, hb9⟩
          obtain ⟨x5, z1, e4, e5, e5', d1, x3⟩ := HX.out
          go_wp2_with fail
          go_region_held3 (fun W => Below wc.heap.size wc W)
            (first | (with_reducible assumption) | (with_reducible exact hb9.drew) | fail)
            (first
            | (go_at_call 10; ((with_reducible refine (HH.out _ (by with_reducible assumption)).mono ?_); rintro e w11 ⟨rfl, hb⟩))
            | fail)
          all_goals
            go_wp2
            go_ret
            exact ⟨rfl, bj hbc ‹Below wc.heap.size wc w11›⟩
    · have HB := Lib.hid fun W (h : Below wc.heap.size wc W ∧ W.cell? ⟨g5, 0, none⟩ = some (.string t) ∧ W.cell? ⟨g5, 1, none⟩ = some (.string d) ∧ W.cell? ⟨g5, 2, none⟩ = some (.float .f64 b) ∧ W.cell? ⟨g6, 0, none⟩ = some (.string t) ∧ W.cell? ⟨g6, 1, none⟩ = some (.string d) ∧ W.cell? ⟨g6, 2, none⟩ = some (.float .f64 b')) => (bytes_no t d b W (by unfold maxLen; omega) (by unfold maxLen; omega) hk).mono fun e w' ⟨he, hb⟩ => (⟨he, bj h.1 hb⟩ : _ ∧ Below wc.heap.size wc w')
      have HB2 := Lib.hid fun W (h : Below wc.heap.size wc W ∧ W.cell? ⟨g5, 0, none⟩ = some (.string t) ∧ W.cell? ⟨g5, 1, none⟩ = some (.string d) ∧ W.cell? ⟨g5, 2, none⟩ = some (.float .f64 b) ∧ W.cell? ⟨g6, 0, none⟩ = some (.string t) ∧ W.cell? ⟨g6, 1, none⟩ = some (.string d) ∧ W.cell? ⟨g6, 2, none⟩ = some (.float .f64 b')) => (bytes_no t d b' W (by unfold maxLen; omega) (by unfold maxLen; omega) hk).mono fun e w' ⟨he, hb⟩ => (⟨he, bj h.1 hb⟩ : _ ∧ Below wc.heap.size wc w')
      rcases chk_cases t d with hc | hc | hc
      · exact absurd hc hk
      all_goals
        rw [hc] at HC HC2
        clear hms hk hc hb hb' hne ht hd
        go_wp2_with fail
        go_region_held3 (fun W => Below wc.heap.size wc W ∧ W.cell? ⟨g5, 0, none⟩ = some (.string t) ∧ W.cell? ⟨g5, 1, none⟩ = some (.string d) ∧ W.cell? ⟨g5, 2, none⟩ = some (.float .f64 b) ∧ W.cell? ⟨g6, 0, none⟩ = some (.string t) ∧ W.cell? ⟨g6, 1, none⟩ = some (.string d) ∧ W.cell? ⟨g6, 2, none⟩ = some (.float .f64 b'))
          (first | (with_reducible assumption) | ((with_reducible refine HS.out _ ?_); (first | (with_reducible assumption) | (with_reducible exact Below.refl _ _) | (with_reducible exact (Below.refl _ _).drew)); done) | fail)
          (first
          | (go_at_call 14; ((with_reducible refine (HB.out _ (by with_reducible assumption)).mono ?_); rintro e w6 ⟨rfl, hb⟩))
          | (go_at_call 14; ((with_reducible refine (HB2.out _ (by with_reducible assumption)).mono ?_); rintro e w6 ⟨rfl, hb⟩))
          | fail)
        all_goals
          have hbq : Below wc.heap.size wc w6 := And.left ‹Below wc.heap.size wc w6 ∧ _›
          go_wp2_with fail
          go_region_held3 (fun W => Below wc.heap.size wc W ∧ W.cell? ⟨g5, 0, none⟩ = some (.string t) ∧ W.cell? ⟨g5, 1, none⟩ = some (.string d) ∧ W.cell? ⟨g5, 2, none⟩ = some (.float .f64 b) ∧ W.cell? ⟨g6, 0, none⟩ = some (.string t) ∧ W.cell? ⟨g6, 1, none⟩ = some (.string d) ∧ W.cell? ⟨g6, 2, none⟩ = some (.float .f64 b'))
            (first | (with_reducible assumption) | ((with_reducible refine HS.out _ ?_); (first | (with_reducible assumption) | (with_reducible exact hbq) | (with_reducible exact (hbq).drew)); done) | fail)
            (first
            | (go_at_call 16; ((with_reducible refine (HM.out _ (by with_reducible assumption)).mono ?_); rintro e w7 ⟨rfl, hb⟩))
            | (go_at_call 12; ((with_reducible refine (HC.out _ (by with_reducible assumption)).mono ?_); rintro e w7 ⟨rfl, hb⟩))
            | (go_at_call 12; ((with_reducible refine (HC2.out _ (by with_reducible assumption)).mono ?_); rintro e w7 ⟨rfl, hb⟩))
            | fail)
          all_goals
            have hbq7 : Below wc.heap.size wc w7 := And.left ‹Below wc.heap.size wc w7 ∧ _›
            clear k0 k1 k2 j0 j1 j2
            have C7 := HS.out _ hbq7
            obtain ⟨-, k0, k1, k2, j0, j1, j2⟩ := id C7
            go_wp2_with fail
            refine (HC.out _ C7).mono ?_
            rintro e w9 ⟨rfl, hb9⟩
            go_wp2_with fail
            refine (HH.out _ hb9).mono ?_
            rintro e w11 ⟨rfl, hb11⟩
            go_wp2
            go_ret
            exact ⟨rfl, bj hbc hb11⟩

theorem walk (W : World) (x : RawS) (y : Int) (wx : RawOk x) (wy : (Lit.int .u8 y).wf = true) :
    Calls Try.prog 8 #[rawB x, .int .u8 y] W fun e w' => e = .returned (.bool true) ∧ Below W.heap.size W w' := by
  obtain ⟨n, rfl, hn⟩ := u8_nat wy
  obtain ⟨t, d, b⟩ := x
  have ⟨ht, hd, hb⟩ := wx
  cases h : grt t d with
  | true => exact great_one t d b n W ht hd h
  | false =>
    obtain ⟨hx, hb', hne⟩ := flip_walk b (n % 64) hb (Nat.mod_lt _ (by decide))
    exact small t d b _ n W (grt_no h).1 (grt_no h).2 hb hb' hne hn hx
end Go.Proofs.Ytkidaijcpeebdaa.EvWeight

/- 'MemtableParts': the walk. -/
import Derived.Test.YtiaobmgafhcfnaaMtPartsMath
import Derived.Test.YtiaobmgafhcfnaaMtActs
import Derived.Test.YtiaobmgafhcfnaaMtTable
import Derived.Test.YtiaobmgafhcfnaaMtEx
import Derived.BigQuiet
import Derived.Test.YtiaobmgafhcfnaaTake
import Derived.Deep.CutBlock
import Derived.Deep.DeepCutAuto
namespace Go.Proofs.Ytiaobmgafhcfnaa
open Go.RowKit Go.Shelf
set_option linter.unusedVariables false
attribute [local go_sem ↓] Go.wp_at_zero Go.wp_at_succ

namespace memtableParts
def TrueEnd (w : World) (e : Ending) (w' : World) : Prop := e = .returned (.bool true) ∧ Below w.heap.size w w'
set_option maxHeartbeats 8000000 in
set_option maxRecDepth 100000 in
theorem walk_ (w : World) (v : Value) (l : List EntS) (hk : Nat) (a b c : Int) (hl : EntsIn w v l) (hok : ∀ x ∈ l, EntOk x) (hx : I64 a ∧ I64 b ∧ I64 c) :
    Calls Try.prog 6 #[v, .int .u64 (hk : Nat), arr3 a b c] w (TrueEnd w) := by
  have HKK := Lib.hid fun W => kept_true W
  have hb1 := (Below.refl w.heap.size w).alloc (Nat.le_refl _) (.cells #[.int .i64 a, .int .i64 b, .int .i64 c] 51)
  have E1 := Blok.new w 51 #[.int .i64 a, .int .i64 b, .int .i64 c]
  obtain ⟨w1, hw1⟩ : ∃ w1, w.alloc (.cells #[.int .i64 a, .int .i64 b, .int .i64 c] 51) = w1 := ⟨_, rfl⟩
  obtain ⟨B, hB⟩ : ∃ B, w.heap.size = B := ⟨_, rfl⟩
  rw [hw1] at hb1 E1
  rw [hB] at E1
  have HB := Lib.hid hb1
  obtain ⟨A, off, cap, hv, -, -⟩ := hl.form
  by_cases hn : l.length ≤ 80
  case neg =>
    subst hv
    clear hl hok E1 hb1
    have t1 : (80 : Int) < (l.length : Int) := by omega
    have t2 : 80 < l.length := by omega
    generalize l.length = n at *
    have H1 := Lib.hid (HKK.out w1)
    unfold arr3
    go_enter Try.func6, Try.ntmps6
    go_wp2_with fail
    refine H1.out.mono ?_
    rintro e w3 ⟨rfl, hb3⟩
    go_wp2
    go_ret
    exact ⟨rfl, bj HB.out hb3⟩
  have HT := Lib.hid (table_run (hl.below hb1 (Nat.le_refl _)) (by omega) hok)
  have HL := Lib.hid (sort_length l)
  have hr := sort_rise l
  have hok2 := sort_ok hok
  subst hv
  have t1 : ¬ (80 : Int) < (l.length : Int) := by omega
  have t2 : decide (80 < l.length) = false := decide_eq_false (by omega)
  obtain ⟨n, hnn⟩ : ∃ n, n = l.length := ⟨_, rfl⟩
  rw [← hnn] at t1 t2 hn HL HT ⊢
  clear hl hok hnn
  generalize sortE l = L at *
  obtain ⟨lo, hlo⟩ : ∃ lo, (if c < (if b < a then b else a) then c else (if b < a then b else a)) = lo := ⟨_, rfl⟩
  obtain ⟨hi, hhi⟩ : ∃ hi, (if c > (if b > a then b else a) then c else (if b > a then b else a)) = hi := ⟨_, rfl⟩
  have HLO := Lib.hid (show lo ≤ hi ∧ I64 lo ∧ I64 hi by
    obtain ⟨⟨a1, a2⟩, ⟨b1, b2⟩, c1, c2⟩ := hx
    subst hlo hhi
    refine ⟨?_, ⟨?_, ?_⟩, ?_, ?_⟩ <;> (split <;> split <;> (try split) <;> (try split) <;> omega))
  unfold arr3
  go_enter Try.func6, Try.ntmps6
  go_wp2_with fail
  refine HT.out.mono ?_
  rintro e w2 ⟨g, F, rfl, hT, hb2⟩
  have E2 := E1.touch (Touch.of_below hb2) (by simp)
  have k0 := E2.cell 0
  have k1 := E2.cell 1
  have k2 := E2.cell 2
  go_wp2_with fail
  go_quiet (fail)
  go_upto_if 40 with fail
  obtain ⟨wd, hwd⟩ : ∃ wd, w2.drewN nq = wd := ⟨_, rfl⟩
  rw [hwd]
  have HTD := Lib.hid (show TabAt wd w1.heap.size g F L by rw [← hwd]; exact hT.drewN _)
  have HBD := Lib.hid (show Below w.heap.size w wd by rw [← hwd]; exact below_drewN (bj HB.out hb2) _)
  have d0 : wd.cell? ⟨B, 0, none⟩ = some (.int .i64 a) := by rw [← hwd]; exact k0
  have d1 : wd.cell? ⟨B, 1, none⟩ = some (.int .i64 b) := by rw [← hwd]; exact k1
  have d2 : wd.cell? ⟨B, 2, none⟩ = some (.int .i64 c) := by rw [← hwd]; exact k2
  clear hwd k0 k1 k2 E1 E2 hb1 hb2 hT HT hlo hhi hw1 hB
  go_cut [9] (fun u wx => ∃ bb, u = .int .i64 bb ∧ wx = wd)
  case first =>
    by_cases q : a = lo
    · have q1 : (a == lo) = true := by simp [q]
      go_wp2
      go_meet
      exact ⟨_, rfl, rfl⟩
    · have q1 : (a == lo) = false := beq_eq_false_iff_ne.2 q
      go_wp2
      go_meet
      exact ⟨_, rfl, rfl⟩
  case rest =>
    obtain ⟨bb, rfl, hwc⟩ := hcut
    obtain rfl : wd = wc := hwc.symm
    go_upto_if 45 with fail
    go_cut [9] (fun u wx => ∃ bb, u = .int .i64 bb ∧ wx = wd)
    case first =>
      by_cases q : bb = hi
      · have q1 : (bb == hi) = true := by simp [q]
        go_wp2
        go_meet
        exact ⟨_, rfl, rfl⟩
      · have q1 : (bb == hi) = false := beq_eq_false_iff_ne.2 q
        go_wp2
        go_meet
        exact ⟨_, rfl, rfl⟩
    case rest =>
      obtain ⟨b2, rfl, hwc⟩ := hcut
      obtain rfl : wd = wc := hwc.symm
      clear bb d0 d1 d2
      obtain ⟨mx, hmx⟩ : ∃ mx, (if lo > b2 then lo else b2) = mx := ⟨_, rfl⟩
      obtain ⟨m, hm⟩ : ∃ m, (if hi < mx then hi else mx) = m := ⟨_, rfl⟩
      have HM := Lib.hid (show lo ≤ m ∧ m ≤ hi by
        have := HLO.out.1
        subst hm hmx
        split <;> split <;> omega)
      obtain ⟨⟨lo0, lo1⟩, hi0, hi1⟩ := HLO.out.2
      go_upto_region 10 with fail
      clear hm hmx
      have hrec : rangeE L hk lo hi = rangeE L hk lo m ++ rangeE L hk (m + 1) hi := parts_range HM.out.1 HM.out.2 hr
      have hL : L.length ≤ 80 := Nat.le_trans HL.out hn
      by_cases hbig : 4611686018427387904 < m
      · clear hrec
        have H1 := Lib.hid (HKK.out wd)
        go_wp2_with fail
        refine H1.out.mono ?_
        rintro e w3 ⟨rfl, hb3⟩
        go_wp2
        go_ret
        exact ⟨rfl, bj HBD.out hb3⟩
      · have q5 : decide ((4611686018427387904 : Int) < m) = false := decide_eq_false hbig
        have q6 : m ≤ 4611686018427387904 := by omega
        clear hbig
        have q1 : IntKind.i64.wrap (m + 1) = m + 1 := IntWalk.i64_in _ (by have := HM.out.1; omega)
        have l0 := range_length L hk lo hi
        have l1 := range_length L hk lo m
        have l2 := range_length L hk (m + 1) hi
        have l3 := range_length L hk (-9223372036854775808) hi
        have HS := Lib.hid (fun (k : Nat) (x : EntS) => last_some hok2 hk hi (m := k) (x := x))
        have HZ := Lib.hid (last_zero hok2 hk hi)
        have H1 := Lib.hid (trange_run HTD.out.has (by omega) hk lo hi)
        have H2 := Lib.hid fun W hW => trange_run (HTD.out.below (w' := W) hW).has (by omega) hk lo m
        have H3 := Lib.hid fun W hW => trange_run (HTD.out.below (w' := W) hW).has (by omega) hk (m + 1) hi
        have H4 := Lib.hid fun W hW => trange_run (HTD.out.below (w' := W) hW).has (by omega) hk (-9223372036854775808) hi
        have H5 := Lib.hid fun W hW => tlast_run (HTD.out.below (w' := W) hW).has (by omega) hk hi
        have HREC := Lib.hid hrec
        generalize rangeE L hk lo hi = R0 at *
        generalize rangeE L hk lo m = R1 at *
        generalize rangeE L hk (m + 1) hi = R2 at *
        generalize rangeE L hk (-9223372036854775808) hi = R3 at *
        generalize lastE L hk hi = E at *
        generalize lastOk L hk hi = ok at *
        clear hrec hr hok2 HTD
        go_wp2_with fail
        refine H1.out.mono ?_
        rintro e w3 ⟨A1, c1, rfl, r1, b3⟩
        have P1 := Lib.hid (EntRow.in_ r1)
        go_wp2_with fail
        refine (H2.out w3 b3).mono ?_
        rintro e w4 ⟨A2, c2, rfl, r2, b4⟩
        have b34 := bj b3 b4
        go_wp2_with fail
        refine (H3.out w4 b34).mono ?_
        rintro e w5 ⟨A3, c3, rfl, r3, b5⟩
        have b35 := bj b34 b5
        obtain ⟨A4, c4, w6, e1, e2, e3, e4⟩ := ents_append (EntRow.below r2 b5 (Nat.le_refl _)) (EntRow.in_ r3) (by omega) (Nat.le_trans b4.size b5.size) 27
        have g6 : Below w3.heap.size w3 w6 := (bj b4 b5).trans (grown_below e3 (Nat.le_trans b4.size b5.size) (EntRow.block r2))
        have b6 := bj b3 g6
        have P2 := Lib.hid (EntRow.in_ e2)
        have HE := Lib.hid e1
        clear r1 r2 r3 e1 e2 e3 e4 b34 b35 b4 b5
        have HLEN := Lib.hid (show R1.length + R2.length ≤ 200 ∧ R0.length ≤ 200 ∧ R3.length ≤ 200 from ⟨by omega, by omega, by omega⟩)
        clear l0 l1 l2 l3
        generalize R1.length + R2.length = N4 at *
        obtain ⟨n3, hn3⟩ : ∃ n3, n3 = R3.length := ⟨_, rfl⟩
        have HN3 := Lib.hid hn3
        obtain ⟨n0, hn0⟩ : ∃ n0, n0 = R0.length := ⟨_, rfl⟩
        have HN0 := Lib.hid hn0
        unfold EntsOut at H4
        rw [← hn3] at H4
        rw [← hn0] at P1 ⊢
        clear hn3 hn0
        go_wp2_with (first | (at_builtin; refine wpList_append_two rfl _ _ rfl rfl rfl HE.out ?_) | fail)
        refine (H4.out w6 b6).mono ?_
        rintro e w7 ⟨A7, c7, rfl, r7, b7⟩
        have b67 := bj b6 b7
        have P3 := Lib.hid (EntRow.in_ r7)
        clear r7
        obtain ⟨Eh, Ev, Ep⟩ := E
        go_wp2_with fail
        refine (H5.out w7 b67).mono ?_
        rintro e w8 ⟨rfl, b8⟩
        have b9 := b8.alloc b8.size (.cells #[.int .u64 (Eh : Nat), .int .i64 Ev, .int .i64 Ep] 32)
        have E9 : EnAt (w8.alloc (.cells #[.int .u64 (Eh : Nat), .int .i64 Ev, .int .i64 Ep] 32)) w8.heap.size Eh Ev Ep := Blok.new _ _ _
        go_wp2_with fail
        obtain ⟨w9, hw9⟩ : ∃ w9, w8.alloc (.cells #[.int .u64 (Eh : Nat), .int .i64 Ev, .int .i64 Ep] 32) = w9 := ⟨_, rfl⟩
        obtain ⟨Q, hQ⟩ : ∃ Q, w8.heap.size = Q := ⟨_, rfl⟩
        rw [hw9, hQ]
        rw [hw9] at b9 E9
        rw [hQ] at E9
        have HSM : Hid (∀ W, Below w9.heap.size w9 W → Calls Try.prog 10 #[.slice A1 n0 c1, .slice A4 N4 c4] W fun e w' => e = .returned (.bool true) ∧ Below W.heap.size W w') := Lib.hid fun W hW =>
          same_kept ((P1.out.below (bj (bj g6 b7) b9) (Nat.le_refl _)).below hW (Nat.le_refl _)) ((P2.out.below (bj b7 b9) (Nat.le_refl _)).below hW (Nat.le_refl _)) (by have := HLEN.out.2.1; omega) (by rw [← HREC.out]; have := HLEN.out.2.1; omega) HREC.out
        have HEND : Hid (∀ W, Below w9.heap.size w9 W → Below w.heap.size w W) := Lib.hid fun W hW => bj HBD.out (bj (bj b67 b9) hW)
        have P7 := Lib.hid (P3.out.below b9 (Nat.le_refl _))
        clear hw9 hQ b9 b8 b67 b7 g6 b6 b3 q1 P1 P2 P3 H1 H2 H3 H4 H5 HE
        by_cases h0 : n3 = 0
        · subst h0
          have hz := HZ.out (List.length_eq_zero_iff.1 HN3.out.symm)
          obtain ⟨-, rfl⟩ := hz
          go_region_with (first
            | (go_at_call 10; (
              (refine (HSM.out _ (by first | with_reducible exact Below.refl _ _ | with_reducible exact (Below.refl _ _).drew)).mono ?_)
              rintro e w10 ⟨rfl, hb10⟩
              have hb11 : Below w9.heap.size w9 w10 := bj (Below.refl _ _).drew hb10
              simp only []
              go_step
              refine tk_yes (i := 3) (d := 87) (v := ?_) rfl (by kernel_rfl) (by kernel_rfl) (by kernel_rfl) (fun _ _ _ h => h) rfl (by rfl) ?_ ?_
              rotate_left
              · (intro w; go_simp; all_goals (with_reducible rfl))
              simp only [List.setIfInBounds_toArray]
              simp only [List.set_cons_succ, List.set_cons_zero]
              refine tk_yes (i := 4) (d := 88) (v := ?_) rfl (by kernel_rfl) (by kernel_rfl) (by kernel_rfl) (fun _ _ _ h => h) rfl (by rfl) ?_ ?_
              rotate_left
              · (intro w; go_simp; all_goals (with_reducible rfl))
              simp only [List.setIfInBounds_toArray]
              simp only [List.set_cons_succ, List.set_cons_zero]
              refine tk_yes (i := 5) (d := 89) (v := ?_) rfl (by kernel_rfl) (by kernel_rfl) (by kernel_rfl) (fun _ _ _ h => h) rfl (by rfl) ?_ ?_
              rotate_left
              · (intro w; go_simp; all_goals (with_reducible rfl))
              simp only [List.setIfInBounds_toArray]
              simp only [List.set_cons_succ, List.set_cons_zero]
              refine tk_yes (i := 6) (d := 90) (v := ?_) rfl (by kernel_rfl) (by kernel_rfl) (by kernel_rfl) (fun _ _ _ h => h) rfl (by rfl) ?_ ?_
              rotate_left
              · (intro w; go_simp; all_goals (with_reducible rfl))
              simp only [List.setIfInBounds_toArray]
              simp only [List.set_cons_succ, List.set_cons_zero]
              refine tk_yes (i := 7) (d := 91) (v := ?_) rfl (by kernel_rfl) (by kernel_rfl) (by kernel_rfl) (fun _ _ _ h => h) rfl (by rfl) ?_ ?_
              rotate_left
              · (intro w; go_simp; all_goals (with_reducible rfl))
              simp only [List.setIfInBounds_toArray]
              simp only [List.set_cons_succ, List.set_cons_zero]
              refine tk_yes (i := 8) (d := 92) (v := ?_) rfl (by kernel_rfl) (by kernel_rfl) (by kernel_rfl) (fun _ _ _ h => h) rfl (by rfl) ?_ ?_
              rotate_left
              · (intro w; go_simp; all_goals (with_reducible rfl))
              simp only [List.setIfInBounds_toArray]
              simp only [List.set_cons_succ, List.set_cons_zero]
              refine tk_yes (i := 9) (d := 93) (v := ?_) rfl (by kernel_rfl) (by kernel_rfl) (by kernel_rfl) (fun _ _ _ h => h) rfl (by rfl) ?_ ?_
              rotate_left
              · (intro w; go_simp; all_goals (with_reducible rfl))
              simp only [List.setIfInBounds_toArray]
              simp only [List.set_cons_succ, List.set_cons_zero]
              refine tk_yes (i := 10) (d := 94) (v := ?_) rfl (by kernel_rfl) (by kernel_rfl) (by kernel_rfl) (fun _ _ _ h => h) rfl (by rfl) ?_ ?_
              rotate_left
              · (intro w; go_simp; all_goals (with_reducible rfl))
              simp only [List.setIfInBounds_toArray]
              simp only [List.set_cons_succ, List.set_cons_zero]
              refine tk_yes (i := 11) (d := 95) (v := ?_) rfl (by kernel_rfl) (by kernel_rfl) (by kernel_rfl) (fun _ _ _ h => h) rfl (by rfl) ?_ ?_
              rotate_left
              · (intro w; go_simp; all_goals (with_reducible rfl))
              simp only [List.setIfInBounds_toArray]
              simp only [List.set_cons_succ, List.set_cons_zero]
              refine tk_yes (i := 12) (d := 96) (v := ?_) rfl (by kernel_rfl) (by kernel_rfl) (by kernel_rfl) (fun _ _ _ h => h) rfl (by rfl) ?_ ?_
              rotate_left
              · (intro w; go_simp; all_goals (with_reducible rfl))
              simp only [List.setIfInBounds_toArray]
              simp only [List.set_cons_succ, List.set_cons_zero]
              refine tk_yes (i := 13) (d := 97) (v := ?_) rfl (by kernel_rfl) (by kernel_rfl) (by kernel_rfl) (fun _ _ _ h => h) rfl (by rfl) ?_ ?_
              rotate_left
              · (intro w; go_simp; all_goals (with_reducible rfl))
              simp only [List.setIfInBounds_toArray]
              simp only [List.set_cons_succ, List.set_cons_zero]
              refine tk_no (i := 14) (d := 98) rfl (by kernel_rfl) (by kernel_rfl) (by kernel_rfl) (fun _ _ _ h => h) rfl (by rfl) ?_; simp only [List.setIfInBounds_toArray]; simp only [List.set_cons_succ, List.set_cons_zero]
              refine tk_no (i := 15) (d := 99) rfl (by kernel_rfl) (by kernel_rfl) (by kernel_rfl) (fun _ _ _ h => h) rfl (by rfl) ?_; simp only [List.setIfInBounds_toArray]; simp only [List.set_cons_succ, List.set_cons_zero]
              refine tk_no (i := 16) (d := 100) rfl (by kernel_rfl) (by kernel_rfl) (by kernel_rfl) (fun _ _ _ h => h) rfl (by rfl) ?_; simp only [List.setIfInBounds_toArray]; simp only [List.set_cons_succ, List.set_cons_zero]
              refine tk_no (i := 17) (d := 101) rfl (by kernel_rfl) (by kernel_rfl) (by kernel_rfl) (fun _ _ _ h => h) rfl (by rfl) ?_; simp only [List.setIfInBounds_toArray]; simp only [List.set_cons_succ, List.set_cons_zero]
              refine tk_no (i := 18) (d := 102) rfl (by kernel_rfl) (by kernel_rfl) (by kernel_rfl) (fun _ _ _ h => h) rfl (by rfl) ?_; simp only [List.setIfInBounds_toArray]; simp only [List.set_cons_succ, List.set_cons_zero]
              refine tk_no (i := 19) (d := 103) rfl (by kernel_rfl) (by kernel_rfl) (by kernel_rfl) (fun _ _ _ h => h) rfl (by rfl) ?_; simp only [List.setIfInBounds_toArray]; simp only [List.set_cons_succ, List.set_cons_zero]
              refine tk_no (i := 20) (d := 104) rfl (by kernel_rfl) (by kernel_rfl) (by kernel_rfl) (fun _ _ _ h => h) rfl (by rfl) ?_; simp only [List.setIfInBounds_toArray]; simp only [List.set_cons_succ, List.set_cons_zero]
              refine tk_no (i := 21) (d := 105) rfl (by kernel_rfl) (by kernel_rfl) (by kernel_rfl) (fun _ _ _ h => h) rfl (by rfl) ?_; simp only [List.setIfInBounds_toArray]; simp only [List.set_cons_succ, List.set_cons_zero]
              skip))
            | (go_at_call 7; ((refine (HKK.out _).mono ?_); rintro e w12 ⟨rfl, hb12⟩))
            | fail)
          all_goals
            go_wp2
            go_ret
            exact ⟨rfl, HEND.out _ (bj hb11 hb12)⟩
        · obtain ⟨m3, hm3⟩ : ∃ m3, n3 = m3 + 1 := ⟨n3 - 1, by omega⟩
          obtain ⟨x, hx3⟩ : ∃ x, R3[m3]? = some x := ⟨_, List.getElem?_eq_getElem (by rw [← HN3.out]; omega)⟩
          obtain ⟨hEx, rfl⟩ := HS.out m3 x (by rw [← HN3.out]; exact hm3) hx3
          subst hEx
          obtain ⟨b, o3, rfl, -, hbk, x0, x1, x2⟩ := ent_cell P7.out hx3
          have HC : Hid (∀ W, Below w9.heap.size w9 W → (W.cell? ⟨Q, 0, none⟩ = some (.int .u64 (Eh : Nat)) ∧ W.cell? ⟨Q, 1, none⟩ = some (.int .i64 Ev) ∧ W.cell? ⟨Q, 2, none⟩ = some (.int .i64 Ep)) ∧
              W.cell? ⟨b, o3 + m3 * 3, none⟩ = some (.int .u64 (Eh : Nat)) ∧ W.cell? ⟨b, o3 + m3 * 3 + 1, none⟩ = some (.int .i64 Ev) ∧ W.cell? ⟨b, o3 + m3 * 3 + 2, none⟩ = some (.int .i64 Ep)) := Lib.hid fun W hW => by
            have q : ∀ {p : Addr} {u : Value}, w9.cell? p = some u → W.cell? p = some u := fun {p u} k => (hW.cell (p := p) (World.block_lt_of_cell? w9 _ k)).trans k
            exact ⟨⟨q (E9.cell 0), q (E9.cell 1), q (E9.cell 2)⟩, q x0, q x1, q x2⟩
          have heq := fun W => ent_eql ⟨Eh, Ev, Ep⟩ ⟨Eh, Ev, Ep⟩ W
          rw [decide_eq_true rfl] at heq
          have s1 : (0 : Int) < (n3 : Int) := by omega
          have s2 : 0 < n3 := by omega
          have s3 : IntKind.i64.wrap ((n3 : Int) - 1) = (m3 : Int) := by
            rw [show (n3 : Int) - 1 = (m3 : Int) by omega]
            exact IntWalk.i64_in _ (by have := HLEN.out.2.2; have := HN3.out; omega)
          have s4 : (m3 : Int) < (n3 : Int) := by omega
          have s5 : m3 < n3 := by omega
          have s6 : decide (0 < n3) = true := decide_eq_true s2
          have HM3 := Lib.hid hm3
          clear hm3 h0 x0 x1 x2 E9 hx3 P7
          go_region_held3 (fun W => (W.cell? ⟨Q, 0, none⟩ = some (.int .u64 (Eh : Nat)) ∧ W.cell? ⟨Q, 1, none⟩ = some (.int .i64 Ev) ∧ W.cell? ⟨Q, 2, none⟩ = some (.int .i64 Ep)) ∧
              W.cell? ⟨b, o3 + m3 * 3, none⟩ = some (.int .u64 (Eh : Nat)) ∧ W.cell? ⟨b, o3 + m3 * 3 + 1, none⟩ = some (.int .i64 Ev) ∧ W.cell? ⟨b, o3 + m3 * 3 + 2, none⟩ = some (.int .i64 Ep))
            (first | (with_reducible assumption) | ((with_reducible refine HC.out _ ?_); (first | (with_reducible assumption) | (with_reducible exact Below.refl _ _) | (with_reducible exact (Below.refl _ _).drew) | exact bj hb11 (by with_reducible assumption)); done) | fail)
            (first
            | (go_at_call 10; ((refine (HSM.out _ (by first | with_reducible exact Below.refl _ _ | with_reducible exact (Below.refl _ _).drew)).mono ?_); rintro e w10 ⟨rfl, hb10⟩; have hb11 : Below w9.heap.size w9 w10 := bj (Below.refl _ _).drew hb10; obtain ⟨⟨y0, y1, y2⟩, y3, y4, y5⟩ := HC.out _ hb11))
            | (go_at_call 7; ((refine (HKK.out _).mono ?_); rintro e w12 ⟨rfl, hb12⟩))
            | fail)
          all_goals
            go_wp2
            go_ret
            exact ⟨rfl, HEND.out _ (bj hb11 hb12)⟩
theorem walk (w : World) (v : Value) (l : List EntS) (h : Int) (a b c : Int) (hl : EntsIn w v l) (hok : ∀ x ∈ l, EntOk x) (wh : (Lit.int .u64 h).wf = true) (hx : I64 a ∧ I64 b ∧ I64 c) :
    Calls Try.prog 6 #[v, .int .u64 h, arr3 a b c] w fun e w' => e = .returned (.bool true) ∧ Below w.heap.size w w' := by
  obtain ⟨k, rfl, -⟩ := u64_nat wh
  exact walk_ w v l k a b c hl hok hx
end memtableParts
end Go.Proofs.Ytiaobmgafhcfnaa

/- 'TablesBack': the walk. -/
import Derived.Test.YtifhiiokgpbhmaaTbTellWalk
import Derived.Test.YtifhiiokgpbhmaaTbMade
namespace Go.Proofs.Ytifhiiokgpbhmaa
open Go.RowKit Go.Shelf
set_option linter.unusedVariables false
attribute [local go_sem ↓] Go.wp_at_zero Go.wp_at_succ

namespace tablesBack
theorem walk_long (w : World) (v : Value) (l : List EntS) (hl : EntsIn w v l) (h : 100 < l.length) :
    Calls Try.prog 4 #[v] w fun e w' => e = .returned (.bool true) ∧ Below w.heap.size w w' := by
  have HL := Lib.hid (tlaid_true w)
  obtain ⟨A, off, cap, rfl, hm, -⟩ := hl.form
  clear hl
  unfold maxLen at hm
  have t1 : (100 : Int) < (l.length : Int) := by omega
  generalize l.length = k at *
  go_enter Try.func4, Try.ntmps4
  go_wp2_with fail
  refine HL.out.mono ?_
  rintro e w1 ⟨rfl, hb1⟩
  go_wp2
  go_ret
  exact ⟨rfl, hb1⟩
set_option maxHeartbeats 4000000 in
set_option maxRecDepth 100000 in
theorem walk_short (w : World) (v : Value) (l : List EntS) (hl : EntsIn w v l) (h1 : l.length ≤ 100) :
    Calls Try.prog 4 #[v] w fun e w' => e = .returned (.bool true) ∧ Below w.heap.size w w' := by
  have HL := Lib.hid (fun W => tlaid_true W)
  have HM := Lib.hid (made_any v l w hl (by omega))
  obtain ⟨hx, hok⟩ := madeE_ok l
  have hlen := madeE_length l
  obtain ⟨A, off, cap, rfl, -, -⟩ := hl.form
  have t1 : ¬ (100 : Int) < (l.length : Int) := by omega
  have t2 : decide ((100 : Int) < (l.length : Int)) = false := decide_eq_false (by omega)
  unfold EntsOut at HM
  clear hl
  have h2 : (madeE l).length ≤ 100 := by omega
  generalize madeE l = L at *
  generalize l.length = n0 at *
  clear hlen h1
  obtain ⟨n, hn⟩ : ∃ n, n = L.length := ⟨_, rfl⟩
  have HN := Lib.hid hn
  obtain ⟨p1, p2⟩ := tb_yes hok
  obtain ⟨g1, g2, g3⟩ := tb_back (by omega) hx hok
  have g4 := (tg_yes g1).2
  have HP := Lib.hid (show ∀ W v', EntsIn W v' L → Calls Try.prog 7 #[v'] W fun e w' => e = .returned (.tuple #[.string (tbB L), .int .i64 0]) ∧ Below W.heap.size W w' from fun W v' h => by
    have := tput_any v' L W h (by omega) hx
    unfold TbEnd at this
    rw [p1, p2] at this
    exact this)
  have hz := tbB_size L
  have HG := Lib.hid (show ∀ W, Calls Try.prog 9 #[.string (tbB L)] W fun e w' => ∃ A c, e = .returned (.tuple #[.slice A L.length c, .int .i64 0]) ∧ EntRow w' W.heap.size (.slice A L.length c) L ∧ Below W.heap.size W w' from fun W => by
    have := tget_any (tbB L) W (by omega)
    unfold TgEnd at this
    rw [g3, g4] at this
    exact this)
  have HSZ := Lib.hid (show ∀ W, Calls Try.prog 13 #[.int .i64 (n : Nat)] W fun e w' => e = .returned (.int .i64 ((tbB L).size : Nat)) ∧ W = w' from fun W => by
    have := tsize_any (n : Nat) W
    rw [(tbSz_nat (by omega)).1, hn, ← hz] at this
    rw [hn]
    exact this)
  have HPC := Lib.hid (show ∀ i x, L[i]? = some x → (tbB L).extract (8 + 24 * i) (32 + 24 * i) = putE x from fun i x h => tbB_piece h ((tbOk_iff.1 hok).2 x (List.mem_of_getElem? h)))
  have HOK := Lib.hid (show ∀ i x, L[i]? = some x → EntOk x from fun i x h => hx x (List.mem_of_getElem? h))
  rw [← hn] at hz h2
  have HHZ := Lib.hid hz
  rw [← hn] at HM HG
  clear hx hok p1 p2 g1 g2 g3 g4 hn hz
  generalize tbB L = T at *
  go_enter Try.func4, Try.ntmps4
  go_wp2_with fail
  refine HM.out.mono ?_
  rintro e w1 ⟨A1, c1, rfl, r1, hb1⟩
  have i1 := EntRow.in_ r1
  have HP2 := Lib.hid (HP.out w1 _ i1)
  have HI1 := Lib.hid i1
  clear r1 i1 HP HM
  go_wp2_with fail
  refine HP2.out.mono ?_
  rintro e w2 ⟨rfl, hb2⟩
  go_wp2_with fail
  refine (HG.out _).mono ?_
  rintro e w3 ⟨A3, c3, rfl, r3, hb3⟩
  have hb23 := bj hb2 hb3
  have HSame := Lib.hid (tsame_kept (q := true) (HI1.out.below hb23 (Nat.le_refl _)) (EntRow.in_ r3) (by rw [← HN.out]; omega) (by rw [← HN.out]; omega) (decide_eq_true rfl))
  have HB3 := Lib.hid hb23
  have HB1 := Lib.hid hb1
  clear r3 hb2 hb3 hb23 hb1 HG HP2
  go_wp2_with fail
  refine HSame.out.mono ?_
  rintro e w4 ⟨rfl, hb4⟩
  have HB4 := Lib.hid (bj HB3.out hb4)
  clear HSame hb4
  go_wp2_with fail
  refine (HSZ.out _).mono ?_
  rintro e w5 ⟨rfl, rfl⟩
  have HI4 := Lib.hid (HI1.out.below HB4.out (Nat.le_refl _))
  have HBW := Lib.hid (bj HB1.out HB4.out)
  clear HI1 HB1 HB3 HB4 HSZ
  have HF := Lib.hid HI4.out.form
  go_wp2
  go_loopw [8] (fun i wr => ∃ k : Nat, k ≤ n ∧ i = .int .i64 k ∧ Below w4.heap.size w4 wr) (fun i _ => n - (intOf i).toNat)
  case atStart => exact ⟨0, Nat.zero_le _, rfl, Below.refl _ _⟩
  case round =>
    obtain ⟨k, hk, rfl, hbel⟩ := hrel
    by_cases hlt : k < n
    · have s1 : (k : Int) < (n : Int) := by omega
      obtain ⟨x, hxk⟩ : ∃ x, L[k]? = some x := ⟨_, List.getElem?_eq_getElem (by rw [← HN.out]; omega)⟩
      obtain ⟨A', o', c', e', -, hcl⟩ := HF.out
      obtain ⟨rfl, -, rfl⟩ := Value.slice.inj e'
      obtain ⟨b, rfl, hbk, d0, d1, d2⟩ := hcl k x hxk
      obtain ⟨a, ha⟩ : ∃ a, a = 8 + 24 * k := ⟨_, rfl⟩
      have HA1 : Hid (∀ W, Calls Try.prog 14 #[.int .i64 (k : Nat)] W fun e w' => e = .returned (.int .i64 (a : Nat)) ∧ W = w') := Lib.hid fun W => by
        have := tat_any (k : Nat) W
        rw [(tbSz_nat (by omega)).2, ← ha] at this
        exact this
      have hpc := HPC.out k x hxk
      rw [← ha, show 32 + 24 * k = a + 24 by omega] at hpc
      obtain ⟨q1, q2, q3⟩ := ctxt_eq hpc
      have HE := Lib.hid fun W => eput_any x W (HOK.out k x hxk)
      have hsz := HHZ.out
      have y1 : decide ((a : Int) < 0) = false := decide_eq_false (by omega)
      have y2 : decide ((T.size : Int) < (a : Int) + 24) = false := decide_eq_false (by omega)
      have y3 : (a : Int) + 24 ≤ (T.size : Int) := by omega
      have y4 : a + 24 ≤ T.size := by omega
      have y5 : IntKind.i64.wrap ((a : Int) + 24) = (a : Int) + 24 := IntWalk.i64_in _ ⟨by omega, by omega⟩
      have y6 : ∀ W : World, (Instr.slice 9 (.string T) (some (.int .i64 (a : Nat))) (some (.int .i64 ((a : Int) + 24))) none).run Try.prog W = .ok (.string (T.extract a (a + 24))) W := fun W => by
        have h0 : ¬ ((a : Int) + 24 < 0) := by omega
        have h1 : ((a : Int) + 24).toNat = a + 24 := by omega
        simp [Instr.slice, go_sem, h0, h1, y3]
      have HS : Hid (∀ W, Below wr.heap.size wr W → Below wr.heap.size wr W ∧ W.cell? ⟨b, o' + k * 3, none⟩ = some (.int .u64 (x.h : Nat)) ∧ W.cell? ⟨b, o' + k * 3 + 1, none⟩ = some (.int .i64 x.v) ∧ W.cell? ⟨b, o' + k * 3 + 2, none⟩ = some (.int .i64 x.p)) := Lib.hid fun W hW =>
        ⟨hW, ((bj hbel hW).cell (p := ⟨b, o' + k * 3, none⟩) hbk).trans d0, ((bj hbel hW).cell (p := ⟨b, o' + k * 3 + 1, none⟩) hbk).trans d1, ((bj hbel hW).cell (p := ⟨b, o' + k * 3 + 2, none⟩) hbk).trans d2⟩
      have s0 := HS.out wr (Below.refl _ _)
      have HBEL := Lib.hid hbel
      clear hcl e' hxk ha hsz hpc d0 d1 d2 hbk HF hbel
      generalize putE x = P at *
      obtain ⟨xh, xv, xp⟩ := x
      simp only at HS s0
      obtain ⟨-, d0, d1, d2⟩ := s0
      go_wp2_with fail
      refine (HA1.out _).mono ?_
      rintro e w6 ⟨rfl, rfl⟩
      go_wp2_with fail
      go_region_held3 (fun W => Below wr.heap.size wr W ∧ W.cell? ⟨b, o' + k * 3, none⟩ = some (.int .u64 (xh : Nat)) ∧ W.cell? ⟨b, o' + k * 3 + 1, none⟩ = some (.int .i64 xv) ∧ W.cell? ⟨b, o' + k * 3 + 2, none⟩ = some (.int .i64 xp))
        (first | (with_reducible assumption) | ((with_reducible refine HS.out _ ?_); (first | (with_reducible assumption) | (with_reducible exact Below.refl _ _) | (with_reducible exact (Below.refl _ _).drew) | exact (bj (And.left (by with_reducible assumption)) ‹Below _ _ _›)); done) | fail)
        (first
        | (go_at_call 16; ((with_reducible refine (HE.out _).mono ?_); rintro e w3 ⟨rfl, hb3⟩; have hB3 : Below wr.heap.size wr w3 := bj (And.left (by with_reducible assumption)) hb3))
        | fail)
      all_goals
        go_wp2
        exact ⟨⟨k + 1, by omega, by go_num, bj HBEL.out hB3⟩, by simp [intOf]; omega⟩
    · obtain rfl : k = n := by omega
      have s1 : ¬ (k : Int) < (k : Int) := by omega
      go_wp2_with fail
      refine (HL.out _).mono ?_
      rintro e w6 ⟨rfl, hb6⟩
      go_wp2
      go_ret
      exact ⟨rfl, bj (bj HBW.out hbel) hb6⟩
theorem walk (w : World) (v : Value) (l : List EntS) (hl : EntsIn w v l) (hx : ∀ x ∈ l, EntOk x) :
    Calls Try.prog 4 #[v] w fun e w' => e = .returned (.bool true) ∧ Below w.heap.size w w' := by
  by_cases h : 100 < l.length
  · exact walk_long w v l hl h
  · exact walk_short w v l hl (by omega)
end tablesBack
end Go.Proofs.Ytifhiiokgpbhmaa

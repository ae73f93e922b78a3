/- The walk of ChunksRow, over what the program's chunks answer. -/
import Derived.Test.YtoocejmimfhniaaChunksTornWalk
namespace Go.Proofs.Ytoocejmimfhniaa
open Go.RowKit
set_option linter.unusedVariables false

theorem idx4 (x y z u : Int) (j : Nat) (K : Int) (h : (j = 0 ∧ K = x) ∨ (j = 1 ∧ K = y) ∨ (j = 2 ∧ K = z) ∨ (j = 3 ∧ K = u)) (w : World) : (Instr.index 32 (.agg #[.int .i64 x, .int .i64 y, .int .i64 z, .int .i64 u]) (.int .i64 (j : Nat))).run Try.prog w = .ok (.int .i64 K) w := by
  rcases h with ⟨rfl, rfl⟩ | ⟨rfl, rfl⟩ | ⟨rfl, rfl⟩ | ⟨rfl, rfl⟩ <;> rfl

set_option maxHeartbeats 1000000 in
set_option maxRecDepth 100000 in
theorem crow_walk (api : ChunksApi) (v : Value) (l : List ByteArray) (n : Nat) (r : ByteArray) (w : World) (hx : ∀ p ∈ l, p.size ≤ maxLen) (hv : StrsIn w v l) (hn : n < 256) (hr : r.size ≤ maxLen) :
    Calls Try.prog 4 #[v, .int .u8 (n : Nat), .string r] w fun e w' => e = .returned (.bool true) ∧ Below w.heap.size w w' := by
  have HR := Lib.hid (chunked_true api)
  obtain ⟨k, hk⟩ : ∃ k : Nat, n % 200 = k := ⟨_, rfl⟩
  have hk9 : k ≤ 199 := by omega
  have k1 : Int.tmod (n : Int) 200 = (k : Int) := by rw [Int.tmod_eq_emod_of_nonneg (by omega)]; omega
  have k2 : (n : Int) % 200 = (k : Int) := by omega
  obtain ⟨q, hq⟩ : ∃ q : Nat, n % 13 = q := ⟨_, rfl⟩
  have q9 : q ≤ 12 := by omega
  have q1 : Int.tmod (n : Int) 13 = (q : Int) := by rw [Int.tmod_eq_emod_of_nonneg (by omega)]; omega
  have q2 : (n : Int) % 13 = (q : Int) := by omega
  have HH := Lib.hid fun W => head_ref (k : Nat) W
  have hz := hd_size hk9
  have HROW : Hid (∀ w1, Below w.heap.size w w1 → Calls Try.prog 15 #[.string (hdS (k : Nat)), v] w1 (RowEnd (hdS (k : Nat)) l w1)) := Lib.hid fun w1 h1 => row_any (hdS (k : Nat)) v l w1 (by rw [hz]; decide) hx (strs_below hv h1)
  obtain ⟨A, cp, rfl, hlm⟩ := hv.form
  obtain ⟨H, hH⟩ : ∃ H, hdS (k : Nat) = H := ⟨_, rfl⟩
  rw [hH] at HH hz HROW
  unfold maxLen at hr
  clear hv hx hlm hH hk hq
  go_enter Try.func4, Try.ntmps4
  go_wp2_with fail
  refine (HH.out _).mono ?_
  rintro e w1 ⟨rfl, hb1⟩
  go_wp2_with fail
  refine (HROW.out w1 hb1).mono ?_
  rintro e w2 ⟨⟨hno, rfl⟩ | ⟨hok, u, rfl, hu⟩, hb2⟩
  · have b12 := bj hb1 hb2
    clear hb1 hb2
    go_wp2_with fail
    refine (HR.out _).mono ?_
    rintro e w3 ⟨rfl, hb3⟩
    go_wp2
    go_ret
    exact ⟨rfl, bj b12 hb3⟩
  · have b12 := bj hb1 hb2
    obtain ⟨A2, c2, rfl⟩ := hu.forms
    have h20 := hok.2.1
    have hsz := rowS_size H l hok.2.2
    have hle : 12 ≤ (rowS H l).size := by rw [rowS_split, ByteArray.size_append]; omega
    clear hb1 hb2 HROW HH hu hok
    generalize rowS H l = S at *
    by_cases hrr : 100 < r.size
    · go_wp2_with fail
      refine (HR.out _).mono ?_
      rintro e w3 ⟨rfl, hb3⟩
      go_wp2
      go_ret
      exact ⟨rfl, bj b12 hb3⟩
    · have ha : ∀ w : World, (Op.stringOp .add S r).run Try.prog w = .ok (.string (S ++ r)) w := fun w => run_string_add_sum (P := Try.prog) (w := w) _ _ (by omega)
      have hT : (S ++ r).size = S.size + r.size := ByteArray.size_append
      obtain ⟨T, hTT⟩ : ∃ T, S ++ r = T := ⟨_, rfl⟩
      rw [hTT] at ha hT
      obtain ⟨Z, hZ⟩ : ∃ Z : Nat, T.size = Z := ⟨_, rfl⟩
      obtain ⟨B, hB⟩ : ∃ B : Nat, r.size = B := ⟨_, rfl⟩
      obtain ⟨N, hN⟩ : ∃ N : Nat, S.size = N := ⟨_, rfl⟩
      rw [hZ, hN, hB] at hT
      rw [hB] at hrr hr
      rw [hN] at hsz hle
      have hT1 : N + B ≤ Z := by omega
      have hT2 : Z ≤ N + B := by omega
      have SC1 := Lib.hid fun K W (hK : K ≤ Z) => api.scan (T.extract 0 K) (k : Nat) W (by rw [ByteArray.size_extract]; omega) (WalkArith.wf_i64 (by omega))
      have SC2 := Lib.hid fun K W (hK : K ≤ Z) => scan_ref (T.extract 0 K) (k : Nat) W (by rw [ByteArray.size_extract]; omega)
      have g1 : wrap64 ((Z : Int) - (B : Int)) = (N : Int) := by unfold wrap64; omega
      have g2 : (Z : Int) - (B : Int) = (N : Int) := by omega
      clear hTT hT
      by_cases h7 : 7 * B ≤ Z
      · obtain ⟨M, hM⟩ : ∃ M : Nat, Z - 7 * B = M := ⟨_, rfl⟩
        have g3 : (Z : Int) - 7 * (B : Int) = (M : Int) := by omega
        have g4 : (0 : Int) ≤ (M : Int) := by omega
        have HIX : Hid (∀ j : Nat, j < 4 → ∃ K : Nat, K ≤ Z ∧ ∀ w : World, (Instr.index 32 (.agg #[.int .i64 (Z : Nat), .int .i64 (N : Nat), .int .i64 (M : Nat), .int .i64 (q : Nat)]) (.int .i64 (j : Nat))).run Try.prog w = .ok (.int .i64 (K : Nat)) w) := Lib.hid fun j hj => by
          have hj4 : j = 0 ∨ j = 1 ∨ j = 2 ∨ j = 3 := by omega
          rcases hj4 with rfl | rfl | rfl | rfl
          · exact ⟨Z, by omega, idx4 _ _ _ _ _ _ (by omega)⟩
          · exact ⟨N, by omega, idx4 _ _ _ _ _ _ (by omega)⟩
          · exact ⟨M, by omega, idx4 _ _ _ _ _ _ (by omega)⟩
          · exact ⟨q, by omega, idx4 _ _ _ _ _ _ (by omega)⟩
        go_wp2
        clear ha
        go_loopw [57] (fun i wr => ∃ j : Nat, j ≤ 4 ∧ i = .int .i64 j ∧ Below w.heap.size w wr) (fun i _ => 4 - (intOf i).toNat)
        case atStart => exact ⟨0, by omega, rfl, b12⟩
        case round =>
          clear b12
          obtain ⟨j, hj, rfl, hbel⟩ := hrel
          by_cases hlt : j < 4
          · obtain ⟨K, hK, hix⟩ := HIX.out j hlt
            have S1 := Lib.hid fun W => SC1.out K W hK
            have S2 := Lib.hid fun W => SC2.out K W hK
            unfold Scanned at S1 S2
            generalize scL (T.extract 0 K) (k : Nat) = L at *
            generalize scE (T.extract 0 K) (k : Nat) = E at *
            generalize scOk (T.extract 0 K) (k : Nat) = b at *
            have e1 : ((E : Int) == (E : Int)) = true := by simp
            have e2 : (b == b) = true := by simp
            have e3 : (b != b) = false := by simp
            have e4 : ((E : Int) != (E : Int)) = false := by simp
            have x8 : (K : Int) ≤ (Z : Int) := by omega
            have x9 : (j : Int) < 4 := by omega
            go_wp2_with fail
            refine (S1.out _).mono ?_
            rintro e w3 ⟨u3, rfl, i3, hb3⟩
            obtain ⟨A3, c3, rfl⟩ := i3.forms
            have I3 := Lib.hid i3
            clear i3
            go_wp2_with fail
            refine (S2.out _).mono ?_
            rintro e w4 ⟨u4, rfl, i4, hb4⟩
            obtain ⟨A4, c4, rfl⟩ := i4.forms
            have hi := ints_any _ _ L L w4 (I3.out.below hb4 (Nat.le_refl _)) i4
            rw [decide_eq_true rfl] at hi
            have HI := Lib.hid hi
            have hbel2 := bj hbel (bj hb3 hb4)
            clear hi i4 I3 hbel hb3 hb4
            go_wp2_with fail
            refine HI.out.mono ?_
            rintro e w5 ⟨rfl, m, rfl⟩
            have hbel3 := below_drewN hbel2 m
            generalize w4.drewN m = w6 at *
            go_wp2
            go_roundw
            case rel => exact ⟨j + 1, by omega, by first | rfl | go_num, hbel3⟩
            case measure => first | (simp [intOf]; done) | (simp [intOf]; omega)
          · obtain rfl : j = 4 := by omega
            go_wp2_with fail
            refine (HR.out _).mono ?_
            rintro e w3 ⟨rfl, hb3⟩
            have hfin := bj hbel hb3
            go_wp2
            go_ret
            exact ⟨rfl, hfin⟩
      · have g3 : (Z : Int) - 7 * (B : Int) < 0 := by omega
        have g4 : ¬ (0 : Int) ≤ (Z : Int) - 7 * (B : Int) := by omega
        have g5 : (Z : Int) - 7 * (B : Int) ≤ 0 := by omega
        have HIX : Hid (∀ j : Nat, j < 4 → ∃ K : Nat, K ≤ Z ∧ ∀ w : World, (Instr.index 32 (.agg #[.int .i64 (Z : Nat), .int .i64 (N : Nat), .int .i64 0, .int .i64 (q : Nat)]) (.int .i64 (j : Nat))).run Try.prog w = .ok (.int .i64 (K : Nat)) w) := Lib.hid fun j hj => by
          have hj4 : j = 0 ∨ j = 1 ∨ j = 2 ∨ j = 3 := by omega
          rcases hj4 with rfl | rfl | rfl | rfl
          · exact ⟨Z, by omega, idx4 _ _ _ _ _ _ (by omega)⟩
          · exact ⟨N, by omega, idx4 _ _ _ _ _ _ (by omega)⟩
          · exact ⟨0, by omega, idx4 _ _ _ _ _ _ (by omega)⟩
          · exact ⟨q, by omega, idx4 _ _ _ _ _ _ (by omega)⟩
        go_wp2
        clear ha
        go_loopw [57] (fun i wr => ∃ j : Nat, j ≤ 4 ∧ i = .int .i64 j ∧ Below w.heap.size w wr) (fun i _ => 4 - (intOf i).toNat)
        case atStart => exact ⟨0, by omega, rfl, b12⟩
        case round =>
          clear b12
          obtain ⟨j, hj, rfl, hbel⟩ := hrel
          by_cases hlt : j < 4
          · obtain ⟨K, hK, hix⟩ := HIX.out j hlt
            have S1 := Lib.hid fun W => SC1.out K W hK
            have S2 := Lib.hid fun W => SC2.out K W hK
            unfold Scanned at S1 S2
            generalize scL (T.extract 0 K) (k : Nat) = L at *
            generalize scE (T.extract 0 K) (k : Nat) = E at *
            generalize scOk (T.extract 0 K) (k : Nat) = b at *
            have e1 : ((E : Int) == (E : Int)) = true := by simp
            have e2 : (b == b) = true := by simp
            have e3 : (b != b) = false := by simp
            have e4 : ((E : Int) != (E : Int)) = false := by simp
            have x8 : (K : Int) ≤ (Z : Int) := by omega
            have x9 : (j : Int) < 4 := by omega
            go_wp2_with fail
            refine (S1.out _).mono ?_
            rintro e w3 ⟨u3, rfl, i3, hb3⟩
            obtain ⟨A3, c3, rfl⟩ := i3.forms
            have I3 := Lib.hid i3
            clear i3
            go_wp2_with fail
            refine (S2.out _).mono ?_
            rintro e w4 ⟨u4, rfl, i4, hb4⟩
            obtain ⟨A4, c4, rfl⟩ := i4.forms
            have hi := ints_any _ _ L L w4 (I3.out.below hb4 (Nat.le_refl _)) i4
            rw [decide_eq_true rfl] at hi
            have HI := Lib.hid hi
            have hbel2 := bj hbel (bj hb3 hb4)
            clear hi i4 I3 hbel hb3 hb4
            go_wp2_with fail
            refine HI.out.mono ?_
            rintro e w5 ⟨rfl, m, rfl⟩
            have hbel3 := below_drewN hbel2 m
            generalize w4.drewN m = w6 at *
            go_wp2
            go_roundw
            case rel => exact ⟨j + 1, by omega, by first | rfl | go_num, hbel3⟩
            case measure => first | (simp [intOf]; done) | (simp [intOf]; omega)
          · obtain rfl : j = 4 := by omega
            go_wp2_with fail
            refine (HR.out _).mono ?_
            rintro e w3 ⟨rfl, hb3⟩
            have hfin := bj hbel hb3
            go_wp2
            go_ret
            exact ⟨rfl, hfin⟩
end Go.Proofs.Ytoocejmimfhniaa

/- PgMayRef -/
import Derived.Test.YtfnppmiapjhjlaaPk08
import Derived.Test.YtfnppmiapjhjlaaPk09
import Derived.Test.YtfnppmiapjhjlaaPk10
import Derived.Deep.RegionHeld3
import Derived.BigQuiet
/- PgMayRef -/
namespace Go.Proofs.Ytfnppmiapjhjlaa
open Go.RowKit
set_option linter.unusedVariables false

theorem mayr_short (t : ByteArray) (g : Nat) (w : World) (h : t.size < 64) :
    Calls Try.prog 14 #[.string t, .int .u64 (g : Nat)] w fun e w' => e = .returned (.bool true) ∧ Below w.heap.size w w' := by
  have s1 : (t.size : Int) < 64 := by omega
  go_enter Try.func14, Try.ntmps14
  go_wp2
  go_ret
  exact ⟨rfl, Below.refl _ _⟩
theorem byte_at (t : ByteArray) (i : Nat) (h : i < t.size) : (t[i]'h).toNat = (t.data.toList.getD i 0).toNat := by
  rw [List.getD_eq_getElem?_getD, Array.getElem?_toList, Array.getElem?_eq_getElem (show i < t.data.size from h)]
  rfl
theorem hnT_lt2 (t : ByteArray) : hnT t < 4294967296 := by
  unfold hnT getS
  have h4 : ((t.extract 4 8).data.toList.take 8).length ≤ 4 := by rw [List.length_take, dl_size, ByteArray.size_extract]; omega
  exact Nat.lt_of_lt_of_le (un_lt _) (Nat.pow_le_pow_right (n := 256) (by decide) h4)

set_option maxHeartbeats 2000000 in
theorem mayr_bad (t : ByteArray) (g p n : Nat) (w : World) (h : 64 ≤ t.size) (hp : hpT t = p) (hn : hnT t = n) (hk : pgOk n p = false) :
    Calls Try.prog 14 #[.string t, .int .u64 (g : Nat)] w fun e w' => e = .returned (.bool true) ∧ Below w.heap.size w w' := by
  have hp2 : p < 256 := by rw [← hp]; exact UInt8.toNat_lt _
  have hn2 : n < 4294967296 := by have := hnT_lt2 t; omega
  have G2 := Lib.hid fun W => get_ref (t.extract 4 8) W (by rw [ByteArray.size_extract]; unfold maxLen; omega)
  have eg : getS (t.extract 4 8) = n := hn
  rw [eg] at G2
  have M1 := Lib.hid fun W => pmay_ref n p W
  rw [hk] at M1
  have n3 : 3 < t.size := by omega
  have i3 : (3 : Int) < (t.size : Int) := by omega
  have v3 : (t[3]'n3).toNat = p := (byte_at t 3 n3).trans hp
  have s1 : (64 : Int) ≤ (t.size : Int) := by omega
  have s2 : ¬ (t.size : Int) < 64 := by omega
  have s4 : (8 : Int) ≤ (t.size : Int) := by omega
  have q2 : IntKind.i64.wrap (n : Int) = (n : Nat) := by rw [IntKind.wrap_i64]; omega
  clear hp hn hk eg h
  go_enter Try.func14, Try.ntmps14
  go_wp2_with fail
  go_quiet ((go_at_call 33; exact Calls.quiet_of_same ((G2.out _).mono fun _ _ h => ⟨h.1, h.2.symm⟩)))
  obtain ⟨w1, hw1⟩ : ∃ w1, w.drewN nq = w1 := ⟨_, rfl⟩
  have HB := Lib.hid (show Below w.heap.size w w1 from hw1 ▸ below_drewN (Below.refl _ _) nq)
  rw [hw1]
  clear hw1 v3 n3 i3
  go_wp2_with fail
  obtain ⟨w2, hw2⟩ : ∃ w2, w1.drew = w2 := ⟨_, rfl⟩
  have HB2 := Lib.hid (show Below w.heap.size w w2 from hw2 ▸ HB.out.drew)
  try rw [hw2]
  clear hw2
  go_quiet ((go_at_call 26; exact Calls.quiet_of_same ((M1.out _).mono fun _ _ h => ⟨h.1, h.2.symm⟩)))
  go_wp2
  go_ret
  exact ⟨rfl, below_drewN HB.out _⟩

set_option maxHeartbeats 2000000 in
theorem mayr_other (t : ByteArray) (g p n : Nat) (w : World) (h : 64 ≤ t.size) (hp : hpT t = p) (hn : hnT t = n) (hk : pgOk n p = true) (hE : ¬ t.extract 0 64 = hdP n p) :
    Calls Try.prog 14 #[.string t, .int .u64 (g : Nat)] w fun e w' => e = .returned (.bool true) ∧ Below w.heap.size w w' := by
  have hp2 : p < 256 := by rw [← hp]; exact UInt8.toNat_lt _
  have hn2 : n < 4294967296 := by have := hnT_lt2 t; omega
  have G2 := Lib.hid fun W => get_ref (t.extract 4 8) W (by rw [ByteArray.size_extract]; unfold maxLen; omega)
  have eg : getS (t.extract 4 8) = n := hn
  rw [eg] at G2
  have M1 := Lib.hid fun W => pmay_ref n p W
  rw [hk] at M1
  have H1 := Lib.hid fun W => headr_any n p W hn2 hp2
  have he := list_ne hE
  have n3 : 3 < t.size := by omega
  have i3 : (3 : Int) < (t.size : Int) := by omega
  have v3 : (t[3]'n3).toNat = p := (byte_at t 3 n3).trans hp
  have s1 : (64 : Int) ≤ (t.size : Int) := by omega
  have s2 : ¬ (t.size : Int) < 64 := by omega
  have s4 : (8 : Int) ≤ (t.size : Int) := by omega
  have q2 : IntKind.i64.wrap (n : Int) = (n : Nat) := by rw [IntKind.wrap_i64]; omega
  clear hp hn hk eg h hE
  go_enter Try.func14, Try.ntmps14
  go_wp2_with fail
  go_quiet ((go_at_call 33; exact Calls.quiet_of_same ((G2.out _).mono fun _ _ h => ⟨h.1, h.2.symm⟩)))
  obtain ⟨w1, hw1⟩ : ∃ w1, w.drewN nq = w1 := ⟨_, rfl⟩
  have HB := Lib.hid (show Below w.heap.size w w1 from hw1 ▸ below_drewN (Below.refl _ _) nq)
  rw [hw1]
  clear hw1 v3 n3 i3
  go_wp2_with fail
  go_region_held3 (fun W => Below w1.heap.size w1 W)
    (first | (with_reducible assumption) | ((repeat' (first | (with_reducible assumption) | (with_reducible exact Below.refl _ _) | (with_reducible refine Below.drew ?_))); done) | fail)
    (first
    | (go_at_call 26; ((with_reducible refine (M1.out _).mono ?_); rintro e w' ⟨rfl, rfl⟩))
    | (go_at_call 27; ((with_reducible refine (H1.out _).mono ?_); rintro e w' ⟨rfl, hb⟩; have hB2 := bj (by with_reducible assumption) hb))
    | fail)
  have HBB := Lib.hid (show Below w1.heap.size w1 w' by assumption)
  go_wp2
  go_ret
  exact ⟨rfl, bj HB.out HBB.out⟩

theorem opA_size {t : ByteArray} {j : Nat} (h : pgW t j = true) : (opA (pgT t j)).size = 60 := by
  obtain ⟨h1, h2⟩ := pgW_iff.1 h
  unfold opA
  rw [if_pos h2, ByteArray.size_extract, pgT_size h1]
  rfl
theorem opA_list {t : ByteArray} {j : Nat} (h : pgW t j = true) : (opA (pgT t j)).data.toList = (pgT t j).data.toList.take 60 := by
  obtain ⟨h1, h2⟩ := pgW_iff.1 h
  unfold opA
  rw [if_pos h2, pgT_size h1, ext_list]
  rfl
theorem opA_byte {t P : ByteArray} {x i : Nat} (h : pgW t (x / 480 + 1) = true) (hP : opA (pgT t (x / 480 + 1)) = P) (e : x / 8 % 60 = i) (hi : i < P.size) : (P[i]'hi).toNat = (byT t x).toNat := by
  have h1 := byte_at P i hi
  rw [h1, ← hP, opA_list h, ← e]
  exact congrArg UInt8.toNat (pgB_at x rfl)

set_option maxHeartbeats 4000000 in
set_option maxRecDepth 100000 in
theorem mayr_yes (t : ByteArray) (g p n : Nat) (r : Bool) (w : World) (hg : g < 18446744073709551616) (hs : t.size ≤ 1000000) (h : 64 ≤ t.size) (hp : hpT t = p) (hn : hnT t = n) (hk : pgOk n p = true) (hE : t.extract 0 64 = hdP n p)
    (Hyes : (∀ k ∈ asksL g p ((8 * n : Nat) : Int), offT t k = false) → r = true) (Hno : ∀ k ∈ asksL g p ((8 * n : Nat) : Int), offT t k = true → r = false) :
    Calls Try.prog 14 #[.string t, .int .u64 (g : Nat)] w fun e w' => e = .returned (.bool r) ∧ Below w.heap.size w w' := by
  obtain ⟨g1, g2, g3, g4, g5⟩ := pgOk_iff.1 hk
  have hp16 : p ≤ 16 := by omega
  have hn12 : 60 ≤ n ∧ n ≤ 120000 := by omega
  have hnp : nps (p : Nat) = p := by unfold nps; omega
  have hp2 : p < 256 := by omega
  have hn2 : n < 4294967296 := by omega
  have G2 := Lib.hid fun W => get_ref (t.extract 4 8) W (by rw [ByteArray.size_extract]; unfold maxLen; omega)
  have eg : getS (t.extract 4 8) = n := hn
  rw [eg] at G2
  have M1 := Lib.hid fun W => pmay_ref n p W
  rw [hk] at M1
  have H1 := Lib.hid fun W => headr_any n p W hn2 hp2
  have he := list_eq hE
  have n3 : 3 < t.size := by omega
  have i3 : (3 : Int) < (t.size : Int) := by omega
  have v3 : (t[3]'n3).toNat = p := (byte_at t 3 n3).trans hp
  have s1 : (64 : Int) ≤ (t.size : Int) := by omega
  have s2 : ¬ (t.size : Int) < 64 := by omega
  have s4 : (8 : Int) ≤ (t.size : Int) := by omega
  have q2 : IntKind.i64.wrap (n : Int) = (n : Nat) := by rw [IntKind.wrap_i64]; omega
  obtain ⟨b, hb⟩ : ∃ b : Int, ((8 * n : Nat) : Int) = b := ⟨_, rfl⟩
  have eb : 8 * (n : Int) = b := by omega
  have wb : (Lit.int .i64 b).wf = true := WalkArith.wf_i64 (by omega)
  have ewb : IntKind.i64.wrap b = b := by rw [IntKind.wrap_i64]; omega
  rw [hb] at Hyes Hno
  have HYES := Lib.hid Hyes
  have HNO := Lib.hid Hno
  have HPR := Lib.hid fun (i : Nat) (W : World) (hi : i < 64) => probe_ref g (i : Nat) b W hg (WalkArith.wf_i64 (by omega)) wb
  have HLT := Lib.hid fun i : Nat => prb_lt g (i : Nat) (show 1 ≤ b by omega)
  have HBN := Lib.hid (And.intro hb (And.intro hnp hs))
  clear hp hn hk eg h hE Hyes Hno wb hb hnp g1 g2 g3 g4 g5
  go_enter Try.func14, Try.ntmps14
  go_wp2_with fail
  go_quiet ((go_at_call 33; exact Calls.quiet_of_same ((G2.out _).mono fun _ _ h => ⟨h.1, h.2.symm⟩)))
  obtain ⟨w1, hw1⟩ : ∃ w1, w.drewN nq = w1 := ⟨_, rfl⟩
  have HB := Lib.hid (show Below w.heap.size w w1 from hw1 ▸ below_drewN (Below.refl _ _) nq)
  rw [hw1]
  clear hw1 v3 n3 i3
  go_wp2_with fail
  go_region_held3 (fun W => Below w1.heap.size w1 W)
    (first | (with_reducible assumption) | ((repeat' (first | (with_reducible assumption) | (with_reducible exact Below.refl _ _) | (with_reducible refine Below.drew ?_))); done) | fail)
    (first
    | (go_at_call 26; ((with_reducible refine (M1.out _).mono ?_); rintro e w' ⟨rfl, rfl⟩))
    | (go_at_call 27; ((with_reducible refine (H1.out _).mono ?_); rintro e w' ⟨rfl, hb⟩; have hB2 := bj (by with_reducible assumption) hb))
    | fail)
  have hb0 := bj HB.out (show Below w1.heap.size w1 w' by assumption)
  obtain ⟨w2, rfl⟩ : ∃ w2, w2 = w' := ⟨_, rfl⟩
  have HB2 := Lib.hid hb0
  clear hb0
  go_wp2_with fail
  go_loopw [7] (fun v wr => ∃ k : Nat, k ≤ p ∧ v = .int .i64 k ∧ (∀ j, j < k → offT t (prb g (j : Nat) b) = false) ∧ Below w.heap.size w wr) (fun v _ => p - (intOf v).toNat)
  case atStart => exact ⟨0, Nat.zero_le _, rfl, fun j hj => by omega, HB2.out⟩
  case round =>
    obtain ⟨k, hk, rfl, hall, hbel⟩ := hrel
    have HALL := Lib.hid hall
    clear hall he
    by_cases hlt : k < p
    · have s5 : (k : Int) < (p : Int) := by omega
      have HK := Lib.hid fun W => HPR.out k W (by omega)
      have hx := HLT.out k
      have hmem := Lib.hid (asksTo_mem (g := g) (p := (p : Nat)) (b := b) (i := k) (by rw [HBN.out.2.1]; exact hlt))
      obtain ⟨x, hxe⟩ : ∃ x, prb g (k : Nat) b = x := ⟨_, rfl⟩
      have HXE := Lib.hid hxe
      rw [hxe] at HK hx hmem
      have hx2 : x < 1000000 := by omega
      clear hxe
      obtain ⟨z, hz⟩ : ∃ z, x / 480 = z := ⟨_, rfl⟩
      obtain ⟨y, hy⟩ : ∃ y, 64 * (z + 1) = y := ⟨_, rfl⟩
      have d1 : (x : Int) / 480 = (z : Int) := by omega
      have d2 : 64 + (z : Int) * 64 = (y : Int) := by omega
      have HZ := Lib.hid (And.intro hz hy)
      have HBL := Lib.hid hbel
      clear hbel
      by_cases hsh : t.size < y + 64
      · have s6 : (t.size : Int) < (y : Int) + 64 := by omega
        have HOFF := Lib.hid (show offT t x = false by
          unfold offT pgW
          rw [HZ.out.1, decide_eq_false (by have := HZ.out.2; omega), Bool.false_and, Bool.false_and])
        clear hz hy
        go_wp2_with fail
        refine (HK.out _).mono ?_
        rintro e w3 ⟨rfl, rfl⟩
        go_wp2
        go_roundw
        case rel =>
          refine ⟨k + 1, hlt, by go_num, fun j hj => ?_, HBL.out⟩
          by_cases e : j = k
          · rw [e, HXE.out]; exact HOFF.out
          · exact HALL.out j (by omega)
        case measure => simp [intOf]; omega
      · have s6 : (y : Int) + 64 ≤ (t.size : Int) := by omega
        have HOP := Lib.hid fun W => open_ref (t.extract y (y + 64)) W (by rw [ByteArray.size_extract]; have := HBN.out.2.2; unfold maxLen; omega)
        have hpt : t.extract y (y + 64) = pgT t (z + 1) := by unfold pgT; rw [hy]
        have hw : pgW t (z + 1) = opOk (pgT t (z + 1)) := by unfold pgW; rw [decide_eq_true (by omega), Bool.true_and]
        have HPT := Lib.hid hpt
        obtain ⟨q, hq⟩ : ∃ q, opOk (pgT t (z + 1)) = q := ⟨_, rfl⟩
        rw [hpt] at HOP
        rw [hq] at hw HOP
        have hw' := hw
        rw [← hz] at hw'
        cases q with
        | false =>
          have HOFF := Lib.hid (show offT t x = false by
            unfold offT
            rw [hw', Bool.false_and])
          generalize opA (pgT t (z + 1)) = P at *
          rw [← hpt] at HOP
          clear hz hy hw hw' hq hpt
          go_wp2_with fail
          refine (HK.out _).mono ?_
          rintro e w3 ⟨rfl, rfl⟩
          go_wp2_with fail
          refine (HOP.out _).mono ?_
          rintro e w4 ⟨rfl, b4⟩
          have HB4 := Lib.hid (bj HBL.out b4)
          clear b4
          go_wp2
          go_roundw
          case rel =>
            refine ⟨k + 1, hlt, by go_num, fun j hj => ?_, HB4.out⟩
            by_cases e : j = k
            · rw [e, HXE.out]; exact HOFF.out
            · exact HALL.out j (by omega)
          case measure => simp [intOf]; omega
        | true =>
          obtain ⟨i, hi⟩ : ∃ i, x / 8 % 60 = i := ⟨_, rfl⟩
          have hi60 : i < 60 := by omega
          have hPs := opA_size (t := t) (j := z + 1) hw
          have hoff : offT t x = !bitT t x := by unfold offT; rw [hw', Bool.true_and]
          unfold bitT at hoff
          obtain ⟨P, hP⟩ : ∃ P, opA (pgT t (z + 1)) = P := ⟨_, rfl⟩
          rw [hP] at HOP hPs
          rw [← hpt] at HOP
          have n6 : i < P.size := by omega
          have hbyte := opA_byte (t := t) (x := x) hw' (by rw [hz]; exact hP) hi n6
          have i6 : (i : Int) < (P.size : Int) := by omega
          obtain ⟨u, hu⟩ : ∃ u, x / 8 = u := ⟨_, rfl⟩
          have d3 : IntKind.i64.wrap ((x : Int) / 8) = (u : Int) := by rw [IntKind.wrap_i64]; omega
          have d4 : (x : Int) / 8 = (u : Int) := by omega
          have d5 : (u : Int) % 60 = (i : Int) := by omega
          have hlow := bit_low (byT t x).toNat (x % 8)
          rw [← hoff, ← hbyte] at hlow
          have HOF := Lib.hid (show offT t x = offT t x from rfl)
          obtain ⟨o, ho⟩ : ∃ o, offT t x = o := ⟨_, rfl⟩
          have HOFF := Lib.hid ho
          rw [ho] at hlow
          clear hz hy hw hw' hq hpt hi hu hbyte hoff ho hPs hP
          cases o with
          | true =>
            have hr := HNO.out x hmem.out HOFF.out
            subst hr
            go_wp2_with fail
            refine (HK.out _).mono ?_
            rintro e w3 ⟨rfl, rfl⟩
            go_wp2_with fail
            refine (HOP.out _).mono ?_
            rintro e w4 ⟨rfl, b4⟩
            have HB4 := Lib.hid (bj HBL.out b4)
            clear b4
            go_wp2
            go_ret
            exact ⟨rfl, HB4.out⟩
          | false =>
            go_wp2_with fail
            refine (HK.out _).mono ?_
            rintro e w3 ⟨rfl, rfl⟩
            go_wp2_with fail
            refine (HOP.out _).mono ?_
            rintro e w4 ⟨rfl, b4⟩
            have HB4 := Lib.hid (bj HBL.out b4)
            clear b4
            go_wp2
            go_roundw
            case rel =>
              refine ⟨k + 1, hlt, by go_num, fun j hj => ?_, HB4.out⟩
              by_cases e : j = k
              · rw [e, HXE.out]; exact HOFF.out
              · exact HALL.out j (by omega)
            case measure => simp [intOf]; omega
    · have hr : r = true := HYES.out fun x hx => by
        obtain ⟨i, hi, rfl⟩ := asksL_mem.1 hx
        rw [HBN.out.2.1] at hi
        exact HALL.out i (by omega)
      subst hr
      have s5 : (p : Int) ≤ (k : Int) := by omega
      go_wp2
      go_ret
      exact ⟨rfl, hbel⟩

theorem mayr_any (t : ByteArray) (g : Nat) (w : World) (hg : g < 18446744073709551616) (hs : t.size ≤ 1000000) :
    Calls Try.prog 14 #[.string t, .int .u64 (g : Nat)] w fun e w' => e = .returned (.bool (mayT t g)) ∧ Below w.heap.size w w' := by
  by_cases h : 64 ≤ t.size
  · cases hk : pgOk (hnT t) (hpT t) with
    | false => rw [mayT_no (hdOk_not hk)]; exact mayr_bad t g _ _ w h rfl rfl hk
    | true =>
      by_cases hE : t.extract 0 64 = hdP (hnT t) (hpT t)
      · have hh := hdOk_iff.2 ⟨h, hk, hE⟩
        exact mayr_yes t g _ _ (mayT t g) w hg hs h rfl rfl hk hE mayT_all fun k hk ho => mayT_one hh hk ho
      · rw [mayT_no (hdOk_other hE)]; exact mayr_other t g _ _ w h rfl rfl hk hE
  · rw [mayT_no (hdOk_short (by omega))]; exact mayr_short t g w (by omega)
end Go.Proofs.Ytfnppmiapjhjlaa

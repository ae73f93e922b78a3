/- The program's chunks: Head, Scan and Fits answer as ChunksApi has it. -/
import Derived.Test.YtoocejmimfhniaaChunksApi
import Derived.Test.YtoocejmimfhniaaRecSize
import Derived.Test.YtoocejmimfhniaaRecWholeOwn
namespace Go.Proofs.Ytoocejmimfhniaa
open Go.RowKit
set_option linter.unusedVariables false

def preS (s p : ByteArray) : Bool := decide (p.size ≤ s.size ∧ s.extract 0 p.size = p)
theorem lpre_any (s p : ByteArray) (w : World) (hs : s.size ≤ maxLen) (hp : p.size ≤ maxLen) :
    Calls Try.prog 28 #[.string s, .string p] w fun e w' => e = .returned (.bool (preS s p)) ∧ w = w' := by
  unfold maxLen at hs hp
  unfold preS
  by_cases h : p.size ≤ s.size
  · have l1 : (p.size : Int) ≤ (s.size : Int) := by omega
    by_cases hq : s.extract 0 p.size = p
    · rw [decide_eq_true ⟨h, hq⟩]
      obtain ⟨q1, q2, q3⟩ := ctxt_eq hq
      clear hq
      go_enter Try.func28, Try.ntmps28
      go_wp2
      go_ret
      exact ⟨rfl, rfl⟩
    · rw [decide_eq_false (fun h => hq h.2)]
      obtain ⟨q1, q2, q3⟩ := ctxt_ne hq
      clear hq
      go_enter Try.func28, Try.ntmps28
      go_wp2
      go_ret
      exact ⟨rfl, rfl⟩
  · rw [decide_eq_false (fun q => h q.1)]
    have l1 : decide ((p.size : Int) ≤ (s.size : Int)) = false := decide_eq_false (by omega)
    go_enter Try.func28, Try.ntmps28
    go_wp2
    go_ret
    exact ⟨rfl, rfl⟩
theorem pre_any (s p : ByteArray) (w : World) (hs : s.size ≤ maxLen) (hp : p.size ≤ maxLen) :
    Calls Try.prog 20 #[.string s, .string p] w fun e w' => e = .returned (.bool (preS s p)) ∧ w = w' := by
  have H := Lib.hid (lpre_any s p w hs hp)
  go_enter Try.func20, Try.ntmps20
  go_wp2_with fail
  refine (H.out).mono ?_
  rintro e w1 ⟨rfl, rfl⟩
  go_wp2
  go_ret
  exact ⟨rfl, rfl⟩

theorem head_any (n : Int) (w : World) (wn : (Lit.int .i64 n).wf = true) :
    Calls Try.prog 13 #[.int .i64 n] w fun e w' => e = .returned (.string (hdS n)) ∧ Below w.heap.size w w' := by
  by_cases h : 0 ≤ n ∧ n ≤ 199
  · obtain ⟨k, rfl⟩ : ∃ k : Nat, n = k := ⟨n.toNat, by omega⟩
    rw [hd_yes (by omega)]
    have HP := Lib.hid fun W => put_some k 4 W (by omega) (by omega) (by omega)
    have HS := Lib.hid fun W => seal_any (hdT k) W (by rw [hdT_size]; decide)
    have ha : ∀ w : World, (Op.stringOp .add ⟨#[99, 104, 110, 107]⟩ (bs (be 4 k))).run Try.prog w = .ok (.string (hdT k)) w := fun w => run_string_add_sum (P := Try.prog) (w := w) _ _ (by rw [bs_size, be_length]; decide)
    have t1 : decide ((k : Int) < 0) = false := decide_eq_false (by omega)
    have t2 : decide ((200 : Int) ≤ (k : Int)) = false := decide_eq_false (by omega)
    have t3 : (k : Int) < 200 := by omega
    have hw : IntKind.u64.wrap (k : Int) = (k : Int) := by rw [IntKind.wrap_u64]; omega
    generalize sealS (hdT k) = S at *
    generalize hdT k = T at *
    generalize bs (be 4 k) = B at *
    clear h
    go_enter Try.func13, Try.ntmps13
    go_wp2_with fail
    refine (HP.out _).mono ?_
    rintro e w1 ⟨rfl, hb1⟩
    go_wp2_with fail
    refine (HS.out _).mono ?_
    rintro e w2 ⟨rfl, hb2⟩
    go_wp2
    go_ret
    exact ⟨rfl, bj hb1 hb2⟩
  · rw [hd_no h]
    by_cases h0 : n < 0
    · have t1 : decide (n < 0) = true := decide_eq_true h0
      clear h
      go_enter Try.func13, Try.ntmps13
      go_wp2
      go_ret
      exact ⟨rfl, Below.refl _ _⟩
    · have t1 : decide (n < 0) = false := decide_eq_false h0
      have t2 : decide ((200 : Int) ≤ n) = true := decide_eq_true (by omega)
      clear h
      go_enter Try.func13, Try.ntmps13
      go_wp2
      go_ret
      exact ⟨rfl, Below.refl _ _⟩

theorem cscan_none (s : ByteArray) (n : Int) (w : World) (wn : (Lit.int .i64 n).wf = true) (h : ¬ (0 ≤ n ∧ n ≤ 199)) :
    Calls Try.prog 10 #[.string s, .int .i64 n] w (NoChunk w) := by
  have HH := Lib.hid fun W => head_any n W wn
  rw [hd_no h] at HH
  unfold NoChunk
  clear h
  go_enter Try.func10, Try.ntmps10
  go_wp2_with fail
  refine (HH.out _).mono ?_
  rintro e w1 ⟨rfl, hb1⟩
  go_wp2
  go_ret3
  exact ⟨_, rfl, Or.inl ⟨rfl, _, _, rfl⟩, hb1⟩

set_option maxHeartbeats 800000 in
theorem cscan_no (s H : ByteArray) (n : Int) (w : World) (hz : H.size = 12)
    (HH : Hid (∀ W : World, Calls Try.prog 13 #[.int .i64 n] W fun e w' => e = .returned (.string H) ∧ Below W.heap.size W w'))
    (HA : Hid (∀ W : World, Calls Try.prog 20 #[.string s, .string H] W fun e w' => e = .returned (.bool false) ∧ W = w'))
    (HB : Hid (∀ W : World, Calls Try.prog 20 #[.string H, .string s] W fun e w' => e = .returned (.bool false) ∧ W = w')) :
    Calls Try.prog 10 #[.string s, .int .i64 n] w (NoChunk w) := by
  unfold NoChunk
  obtain ⟨v2, v3⟩ := ne_nil_of_size hz
  go_enter Try.func10, Try.ntmps10
  go_wp2_with fail
  refine (HH.out _).mono ?_
  rintro e w1 ⟨rfl, hb1⟩
  go_wp2_with fail
  refine (HA.out _).mono ?_
  rintro e w2 ⟨rfl, rfl⟩
  go_wp2_with fail
  refine (HB.out _).mono ?_
  rintro e w2 ⟨rfl, rfl⟩
  go_wp2
  go_ret3
  exact ⟨_, rfl, Or.inl ⟨rfl, _, _, rfl⟩, hb1⟩
set_option maxHeartbeats 800000 in
theorem cscan_half (s H : ByteArray) (n : Int) (w : World) (hz : H.size = 12)
    (HH : Hid (∀ W : World, Calls Try.prog 13 #[.int .i64 n] W fun e w' => e = .returned (.string H) ∧ Below W.heap.size W w'))
    (HA : Hid (∀ W : World, Calls Try.prog 20 #[.string s, .string H] W fun e w' => e = .returned (.bool false) ∧ W = w'))
    (HB : Hid (∀ W : World, Calls Try.prog 20 #[.string H, .string s] W fun e w' => e = .returned (.bool true) ∧ W = w')) :
    Calls Try.prog 10 #[.string s, .int .i64 n] w (HalfChunk w) := by
  unfold HalfChunk
  obtain ⟨v2, v3⟩ := ne_nil_of_size hz
  go_enter Try.func10, Try.ntmps10
  go_wp2_with fail
  refine (HH.out _).mono ?_
  rintro e w1 ⟨rfl, hb1⟩
  go_wp2_with fail
  refine (HA.out _).mono ?_
  rintro e w2 ⟨rfl, rfl⟩
  go_wp2_with fail
  refine (HB.out _).mono ?_
  rintro e w2 ⟨rfl, rfl⟩
  go_wp2
  go_ret3
  exact ⟨_, rfl, Or.inl ⟨rfl, _, _, rfl⟩, hb1⟩
set_option maxHeartbeats 800000 in
theorem cscan_whole (s H : ByteArray) (n : Int) (w : World) (hz : H.size = 12) (L : List Int) (E : Nat)
    (HH : Hid (∀ W : World, Calls Try.prog 13 #[.int .i64 n] W fun e w' => e = .returned (.string H) ∧ Below W.heap.size W w'))
    (HA : Hid (∀ W : World, Calls Try.prog 20 #[.string s, .string H] W fun e w' => e = .returned (.bool true) ∧ W = w'))
    (HW : Hid (∀ W : World, Calls Try.prog 21 #[.string s, .int .i64 12] W fun e w' => ∃ u, e = .returned (.tuple #[u, .int .i64 (E : Nat)]) ∧ IntsIn w' u L ∧ Below W.heap.size W w')) :
    Calls Try.prog 10 #[.string s, .int .i64 n] w fun e w' => ∃ u, e = .returned (.tuple #[u, .int .i64 (E : Nat), .bool true]) ∧ IntsIn w' u L ∧ Below w.heap.size w w' := by
  obtain ⟨v2, v3⟩ := ne_nil_of_size hz
  go_enter Try.func10, Try.ntmps10
  go_wp2_with fail
  refine (HH.out _).mono ?_
  rintro e w1 ⟨rfl, hb1⟩
  go_wp2_with fail
  refine (HA.out _).mono ?_
  rintro e w2 ⟨rfl, rfl⟩
  go_wp2_with fail
  refine (HW.out _).mono ?_
  rintro e w2 ⟨u, rfl, hu, hb2⟩
  obtain ⟨A, c, rfl⟩ := hu.forms
  go_wp2
  go_ret3
  exact ⟨_, rfl, hu, bj hb1 hb2⟩

theorem cscan_any (s : ByteArray) (n : Int) (w : World) (hs : s.size ≤ 1000000) (wn : (Lit.int .i64 n).wf = true) :
    Calls Try.prog 10 #[.string s, .int .i64 n] w (Scanned s n w) := by
  have hno : scK s n = 0 → ∀ e w', NoChunk w e w' → Scanned s n w e w' := by
    intro hk e w' ⟨u, he, hu, hb⟩
    obtain ⟨e1, e2, e3⟩ := sc_0 hk
    exact ⟨u, by rw [he, e2, e3]; rfl, by rw [e1]; exact hu, hb⟩
  have hhalf : scK s n = 1 → ∀ e w', HalfChunk w e w' → Scanned s n w e w' := by
    intro hk e w' ⟨u, he, hu, hb⟩
    obtain ⟨e1, e2, e3⟩ := sc_1 hk
    exact ⟨u, by rw [he, e2, e3]; rfl, by rw [e1]; exact hu, hb⟩
  by_cases h : 0 ≤ n ∧ n ≤ 199
  · obtain ⟨k, rfl⟩ : ∃ k : Nat, n = k := ⟨n.toNat, by omega⟩
    have hz := hd_size (n := k) (by omega)
    have HH := Lib.hid fun W => head_any (k : Nat) W wn
    have hs2 : s.size ≤ maxLen := by unfold maxLen; omega
    have hh2 : (hdS (k : Nat)).size ≤ maxLen := by rw [hz]; decide
    have HA := fun W => pre_any s (hdS (k : Nat)) W hs2 hh2
    have HB := fun W => pre_any (hdS (k : Nat)) s W hh2 hs2
    have hx : (hdS (k : Nat)).extract 0 12 = hdS (k : Nat) := by rw [← hz]; exact ByteArray.extract_zero_size
    by_cases ha : 12 ≤ s.size ∧ s.extract 0 12 = hdS (k : Nat)
    · have e1 : preS s (hdS (k : Nat)) = true := by unfold preS; rw [hz]; exact decide_eq_true ha
      rw [e1] at HA
      have hk : scK s (k : Nat) = 2 := scK_whole h (by rw [Nat.min_eq_right ha.1, ha.2, hx]) (by omega)
      obtain ⟨x1, x2, x3⟩ := sc_2 hk
      have HW := Lib.hid fun W => rwhole_any s 12 W hs (by decide)
      unfold WholeRec at HW
      unfold Scanned
      rw [x1, x2, x3]
      exact cscan_whole s _ _ w hz _ _ HH (Lib.hid HA) HW
    · have e1 : preS s (hdS (k : Nat)) = false := by unfold preS; rw [hz]; exact decide_eq_false ha
      rw [e1] at HA
      by_cases hb : s.size ≤ 12 ∧ (hdS (k : Nat)).extract 0 s.size = s
      · have e2 : preS (hdS (k : Nat)) s = true := by unfold preS; rw [hz]; exact decide_eq_true hb
        rw [e2] at HB
        have hl : s.size < 12 := by
          rcases Nat.lt_or_ge s.size 12 with c | c
          · exact c
          · have e12 : s.size = 12 := by omega
            refine absurd ⟨c, ?_⟩ ha
            have h2 := hb.2
            rw [e12, hx] at h2
            rw [← e12, ByteArray.extract_zero_size]
            exact h2.symm
        have hk : scK s (k : Nat) = 1 := scK_short h (by rw [Nat.min_eq_left (by omega), hb.2, ByteArray.extract_zero_size]) hl
        exact (cscan_half s _ _ w hz HH (Lib.hid HA) (Lib.hid HB)).mono (hhalf hk)
      · have e2 : preS (hdS (k : Nat)) s = false := by unfold preS; rw [hz]; exact decide_eq_false hb
        rw [e2] at HB
        have hk : scK s (k : Nat) = 0 := scK_bad h (fun q => by
          rcases Nat.lt_or_ge s.size 12 with c | c
          · rw [Nat.min_eq_left (by omega), ByteArray.extract_zero_size] at q
            exact hb ⟨by omega, q.symm⟩
          · rw [Nat.min_eq_right c, hx] at q
            exact ha ⟨c, q⟩)
        exact (cscan_no s _ _ w hz HH (Lib.hid HA) (Lib.hid HB)).mono (hno hk)
  · exact (cscan_none s n w wn h).mono (hno (scK_no h))

theorem cfits_any (size : Int) (p : ByteArray) (w : World) (hp : p.size ≤ maxLen) (wn : (Lit.int .i64 size).wf = true) :
    Calls Try.prog 16 #[.int .i64 size, .string p] w fun e w' => e = .returned (.bool (ftS size p)) ∧ w = w' := by
  have hb := bounds_i64 wn
  unfold maxLen at hp
  unfold ftS
  by_cases h1 : p.size ≤ 2000
  · by_cases h2 : 0 ≤ size
    · by_cases h3 : size ≤ 4084 - (p.size : Int)
      · rw [decide_eq_true ⟨h1, h2, by omega, by omega⟩]
        go_enter Try.func16, Try.ntmps16
        go_wp2
        go_ret
        exact ⟨rfl, rfl⟩
      · rw [decide_eq_false (fun q => h3 (by omega))]
        go_enter Try.func16, Try.ntmps16
        go_wp2
        go_ret
        exact ⟨rfl, rfl⟩
    · rw [decide_eq_false (fun q => h2 q.2.1)]
      go_enter Try.func16, Try.ntmps16
      go_wp2
      go_ret
      exact ⟨rfl, rfl⟩
  · rw [decide_eq_false (fun q => h1 q.1)]
    go_enter Try.func16, Try.ntmps16
    go_wp2
    go_ret
    exact ⟨rfl, rfl⟩

theorem capi : ChunksApi where
  head := head_any
  scan := cscan_any
  fits := cfits_any
  put := rput_any
end Go.Proofs.Ytoocejmimfhniaa

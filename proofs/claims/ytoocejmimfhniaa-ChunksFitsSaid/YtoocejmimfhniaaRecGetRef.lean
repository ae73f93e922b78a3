/- The document's Get of records. -/
import Derived.Test.YtoocejmimfhniaaRecPutRef
import Derived.Test.YtoocejmimfhniaaNumsGetRef
namespace Go.Proofs.Ytoocejmimfhniaa
open Go.RowKit
set_option linter.unusedVariables false

def NoRec (w : World) (e : Ending) (w' : World) : Prop := e = .returned (.tuple #[.string ByteArray.empty, .int .i64 0, .bool false]) ∧ Below w.heap.size w w'

theorem grec_out (s : ByteArray) (a : Int) (w : World) (hs : s.size ≤ maxLen) (wa : (Lit.int .i64 a).wf = true) (h : a < 0 ∨ (s.size : Int) < a + 12) :
    Calls Try.prog 31 #[.string s, .int .i64 a] w (NoRec w) := by
  have hb := bounds_i64 wa
  unfold maxLen at hs
  by_cases h0 : a < 0
  · go_enter Try.func31, Try.ntmps31
    go_wp2
    go_ret3
    exact ⟨rfl, Below.refl _ _⟩
  · by_cases h1 : (s.size : Int) < a
    · go_enter Try.func31, Try.ntmps31
      go_wp2
      go_ret3
      exact ⟨rfl, Below.refl _ _⟩
    · have h2 : (s.size : Int) - a < 12 := by omega
      go_enter Try.func31, Try.ntmps31
      go_wp2
      go_ret3
      exact ⟨rfl, Below.refl _ _⟩

theorem grec_len (s : ByteArray) (k n : Nat) (w : World) (hs : s.size ≤ maxLen) (hk : k + 12 ≤ s.size) (hn : n < 18446744073709551616) (h : 2000 < n ∨ s.size < k + n + 12)
    (hg : ∀ w : World, Calls Try.prog 36 #[.string (s.extract k (k + 4))] w fun e w' => e = .returned (.int .u64 (n : Nat)) ∧ w = w') :
    Calls Try.prog 31 #[.string s, .int .i64 (k : Nat)] w (NoRec w) := by
  have Hg := Lib.hid hg
  have x1 : ((k : Int) + 4).toNat = k + 4 := by omega
  have y1 : ¬ (s.size : Int) - (k : Int) < 12 := by omega
  unfold maxLen at hs
  clear hg
  by_cases h2 : 2000 < n
  · go_enter Try.func31, Try.ntmps31
    go_wp2_with fail
    refine (Hg.out _).mono ?_
    rintro e w' ⟨rfl, rfl⟩
    go_wp2
    go_ret3
    exact ⟨rfl, Below.refl _ _⟩
  · have y2 : (s.size : Int) - (k : Int) < (n : Int) + 12 := by omega
    go_enter Try.func31, Try.ntmps31
    go_wp2_with fail
    refine (Hg.out _).mono ?_
    rintro e w' ⟨rfl, rfl⟩
    go_wp2
    go_ret3
    exact ⟨rfl, Below.refl _ _⟩

theorem grec_no (s : ByteArray) (k n : Nat) (w : World) (hs : s.size ≤ maxLen) (hn : n ≤ 2000) (hk : k + n + 12 ≤ s.size) (T : ByteArray) (hT : T.size = n + 12)
    (hg : ∀ w : World, Calls Try.prog 36 #[.string (s.extract k (k + 4))] w fun e w' => e = .returned (.int .u64 (n : Nat)) ∧ w = w')
    (hp : ∀ w : World, Calls Try.prog 27 #[.string (s.extract (k + 4) (k + 4 + n))] w fun e w' => e = .returned (.tuple #[.string T, .int .i64 0]) ∧ Below w.heap.size w w')
    (hq : ((s.extract k (k + T.size)).toList != T.toList) = true) :
    Calls Try.prog 31 #[.string s, .int .i64 (k : Nat)] w (NoRec w) := by
  have hq2 : ((s.extract k (k + T.size)).toList == T.toList) = false := by simpa using hq
  have hq3 : (!((s.extract k (k + T.size)).toList == T.toList)) = true := by rw [hq2]; rfl
  have Hg := Lib.hid hg
  have Hp := Lib.hid hp
  have x1 : ((k : Int) + 4).toNat = k + 4 := by omega
  have x2 : ((k : Int) + 4 + (n : Int)).toNat = k + 4 + n := by omega
  have x3 : ((k : Int) + (T.size : Int)).toNat = k + T.size := by omega
  have y1 : ¬ (s.size : Int) - (k : Int) < 12 := by omega
  have y2 : ¬ (s.size : Int) - (k : Int) < (n : Int) + 12 := by omega
  have y3 : k + T.size ≤ s.size := by omega
  unfold maxLen at hs
  clear hg hp hT
  go_enter Try.func31, Try.ntmps31
  go_wp2_with fail
  refine (Hg.out _).mono ?_
  rintro e w' ⟨rfl, rfl⟩
  go_wp2_with fail
  refine (Hp.out _).mono ?_
  rintro e w1 ⟨rfl, hb1⟩
  go_wp2
  go_ret3
  exact ⟨rfl, hb1⟩

theorem grec_yes (s : ByteArray) (k n : Nat) (w : World) (hs : s.size ≤ maxLen) (hn : n ≤ 2000) (hk : k + n + 12 ≤ s.size) (T : ByteArray) (hT : T.size = n + 12)
    (hg : ∀ w : World, Calls Try.prog 36 #[.string (s.extract k (k + 4))] w fun e w' => e = .returned (.int .u64 (n : Nat)) ∧ w = w')
    (hp : ∀ w : World, Calls Try.prog 27 #[.string (s.extract (k + 4) (k + 4 + n))] w fun e w' => e = .returned (.tuple #[.string T, .int .i64 0]) ∧ Below w.heap.size w w')
    (hq : ((s.extract k (k + T.size)).toList == T.toList) = true) :
    Calls Try.prog 31 #[.string s, .int .i64 (k : Nat)] w fun e w' => e = .returned (.tuple #[.string (s.extract (k + 4) (k + 4 + n)), .int .i64 ((k : Int) + (T.size : Int)), .bool true]) ∧ Below w.heap.size w w' := by
  have Hg := Lib.hid hg
  have Hp := Lib.hid hp
  have hq3 : (!((s.extract k (k + T.size)).toList == T.toList)) = false := by rw [hq]; rfl
  have hq' : ((s.extract k (k + T.size)).toList != T.toList) = false := by simpa using hq
  have x1 : ((k : Int) + 4).toNat = k + 4 := by omega
  have x2 : ((k : Int) + 4 + (n : Int)).toNat = k + 4 + n := by omega
  have x3 : ((k : Int) + (T.size : Int)).toNat = k + T.size := by omega
  have y1 : ¬ (s.size : Int) - (k : Int) < 12 := by omega
  have y2 : ¬ (s.size : Int) - (k : Int) < (n : Int) + 12 := by omega
  have y3 : k + T.size ≤ s.size := by omega
  unfold maxLen at hs
  clear hg hp hT
  go_enter Try.func31, Try.ntmps31
  go_wp2_with fail
  refine (Hg.out _).mono ?_
  rintro e w' ⟨rfl, rfl⟩
  go_wp2_with fail
  refine (Hp.out _).mono ?_
  rintro e w1 ⟨rfl, hb1⟩
  go_wp2
  go_ret3
  exact ⟨rfl, hb1⟩

theorem rtxt_eq {a b : ByteArray} (h : a = b) : (a.toList == b.toList) = true := by rw [h, beq_iff_eq]
theorem rtxt_ne {a b : ByteArray} (h : ¬ a = b) : (a.toList != b.toList) = true := by
  rw [bne_iff_ne]
  intro x
  rw [Lib.toList_data, Lib.toList_data] at x
  exact h (ByteArray.ext (Array.toList_inj.1 x))

/-- What Get tells. -/
def GotRec (s : ByteArray) (a : Int) (w : World) (e : Ending) (w' : World) : Prop := e = .returned (.tuple #[.string (getP s a), .int .i64 (getN s a : Nat), .bool (getOk s a)]) ∧ Below w.heap.size w w'
theorem got_no {s : ByteArray} {a : Int} {w w' : World} {e : Ending} (h : getOk s a = false) (hn : NoRec w e w') : GotRec s a w e w' := by
  obtain ⟨e1, e2⟩ := gt_no h
  unfold GotRec
  rw [e1, e2, h]
  exact hn

/-- The document's Get. -/
theorem grec_ref (s : ByteArray) (a : Int) (w : World) (hs : s.size ≤ maxLen) (wa : (Lit.int .i64 a).wf = true) :
    Calls Try.prog 31 #[.string s, .int .i64 a] w (GotRec s a w) := by
  by_cases h : a < 0 ∨ (s.size : Int) < a + 12
  · refine (grec_out s a w hs wa h).mono fun e w' hn => got_no ?_ hn
    unfold getOk
    by_cases h0 : 0 ≤ a
    · rw [gtOk_false (by omega), Bool.and_false]
    · rw [decide_eq_false h0, Bool.false_and]
  · obtain ⟨k, rfl⟩ : ∃ k : Nat, a = k := ⟨a.toNat, by omega⟩
    have hg := fun W => get_ref (s.extract k (k + 4)) W (by unfold maxLen at *; rw [ByteArray.size_extract]; omega)
    have hn := getS_lt (s.extract k (k + 4))
    have hle : getS (s.extract k (k + 4)) = gtLen s k := rfl
    rw [hle] at hn hg
    by_cases h2 : 2000 < gtLen s k ∨ s.size < k + gtLen s k + 12
    · refine (grec_len s k _ w hs (by omega) hn h2 hg).mono fun e w' hn => got_no ?_ hn
      rw [getOk_nat]
      exact gtOk_false (by omega)
    · have hsz : (s.extract (k + 4) (k + 4 + gtLen s k)).size = gtLen s k := by rw [ByteArray.size_extract]; omega
      have hT := recS_size (s.extract (k + 4) (k + 4 + gtLen s k))
      rw [hsz] at hT
      have hp := fun W => prec_yes (s.extract (k + 4) (k + 4 + gtLen s k)) W (by omega)
      have e3 : k + gtLen s k + 12 = k + (recS (s.extract (k + 4) (k + 4 + gtLen s k))).size := by omega
      by_cases hq : s.extract k (k + gtLen s k + 12) = recS (s.extract (k + 4) (k + 4 + gtLen s k))
      · obtain ⟨g1, g2, g3⟩ := gt_yes (gtOk_iff.2 ⟨by omega, by omega, by omega, hq⟩)
        unfold GotRec
        rw [g1, g2, g3]
        refine (grec_yes s k _ w hs (by omega) (by omega) _ hT hg hp (rtxt_eq (by rw [← e3]; exact hq))).mono fun e w' ⟨he, hb⟩ => ⟨?_, hb⟩
        rw [he, show ((k + gtLen s k + 12 : Nat) : Int) = (k : Int) + ((recS (s.extract (k + 4) (k + 4 + gtLen s k))).size : Int) by omega]
      · refine (grec_no s k _ w hs (by omega) (by omega) _ hT hg hp (rtxt_ne (by rw [← e3]; exact hq))).mono fun e w' hn => got_no ?_ hn
        rw [getOk_nat]
        exact gtOk_false (fun q => hq q.2.2.2)
end Go.Proofs.Ytoocejmimfhniaa

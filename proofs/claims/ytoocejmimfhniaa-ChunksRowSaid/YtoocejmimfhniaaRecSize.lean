/- The program's isPlace, size, asked and Put of records, and when a text is a record, in the program's words. -/
import Derived.Test.YtoocejmimfhniaaRecWholeRef
import Derived.WalkArith
import Derived.Test.YtoocejmimfhniaaOpenOne
import Derived.Test.YtoocejmimfhniaaNumsGet
import Derived.Test.YtoocejmimfhniaaRecStands
namespace Go.Proofs.Ytoocejmimfhniaa
open Go.RowKit
set_option linter.unusedVariables false

theorem bs_list (s : ByteArray) : bs s.data.toList = s := by
  apply ByteArray.ext
  simp [bs]
theorem be_getS (s : ByteArray) (h : s.size = 4) : bs (be 4 (getS s)) = s := by
  have hl : s.data.toList.length = 4 := by rw [Array.length_toList]; exact h
  unfold getS
  rw [List.take_of_length_le (by omega)]
  have e := be_un s.data.toList
  rw [hl] at e
  rw [e, bs_list]
theorem getS_four (s : ByteArray) (h : s.size ≤ 4) : getS s < 4294967296 := by
  unfold getS
  have h1 := un_lt (s.data.toList.take 8)
  have h2 : (s.data.toList.take 8).length ≤ 4 := by rw [List.length_take, Array.length_toList]; have : s.data.size = s.size := rfl; omega
  have h3 : 256 ^ (s.data.toList.take 8).length ≤ 256 ^ 4 := Nat.pow_le_pow_right (by decide) h2
  have : (256 : Nat) ^ 4 = 4294967296 := by decide
  omega
theorem join_ext (s : ByteArray) (i j k : Nat) (h1 : i ≤ j) (h2 : j ≤ k) : s.extract i j ++ s.extract j k = s.extract i k := by
  rw [ByteArray.extract_append_extract, Nat.min_eq_left h1, Nat.max_eq_right h2]
theorem opOk_iff {s : ByteArray} (h : 4 ≤ s.size) : opOk s = true ↔ s = sealS (s.extract 0 (s.size - 4)) := by
  have hz : (s.extract 0 (s.size - 4)).size = s.size - 4 := by rw [ByteArray.size_extract]; omega
  have hj : s.extract 0 (s.size - 4) ++ s.extract (s.size - 4) s.size = s := by rw [join_ext _ _ _ _ (by omega) (by omega), ByteArray.extract_zero_size]
  unfold opOk sealS
  rw [decide_eq_true_iff]
  constructor
  · rintro ⟨_, e⟩
    rw [← e, hj]
  · intro e
    refine ⟨h, ?_⟩
    have e2 := congrArg (fun x => x.extract (s.size - 4) s.size) e
    rw [e2]
    have := ext_mid (s.extract 0 (s.size - 4)) (bs (tailS (s.extract 0 (s.size - 4)).data.toList)) ByteArray.empty (i := s.size - 4) (j := s.size) hz.symm (by rw [hz, bs_size, tailS_length]; omega)
    rw [ByteArray.append_empty] at this
    exact this

/-- When a text that says that it has n bytes of payload is a record. -/
theorem rec_iff (R : ByteArray) (n : Nat) (hR : R.size = n + 12) (hn : getS (R.extract 0 4) = n) :
    R = recS (R.extract 4 (4 + n)) ↔ (R.extract (n + 8) (n + 12) = R.extract 0 4 ∧ opOk (R.extract 0 (n + 8)) = true) := by
  have z4 : (R.extract 0 4).size = 4 := by rw [ByteArray.size_extract]; omega
  have zp : (R.extract 4 (4 + n)).size = n := by rw [ByteArray.size_extract]; omega
  have z8 : (R.extract 0 (n + 8)).size = n + 8 := by rw [ByteArray.size_extract]; omega
  have hb := be_getS _ z4
  rw [hn] at hb
  have hj : R.extract 0 4 ++ R.extract 4 (4 + n) = R.extract 0 (n + 4) := by rw [join_ext _ _ _ _ (by omega) (by omega), Nat.add_comm 4 n]
  have hx : (R.extract 0 (n + 8)).extract 0 (n + 4) = R.extract 0 (n + 4) := by rw [ByteArray.extract_extract]; congr 1 <;> omega
  have hw : R.extract 0 (n + 8) ++ R.extract (n + 8) (n + 12) = R := by rw [join_ext _ _ _ _ (by omega) (by omega), ← hR, ByteArray.extract_zero_size]
  have hrec : recS (R.extract 4 (4 + n)) = sealS (R.extract 0 (n + 4)) ++ R.extract 0 4 := by
    unfold recS
    rw [zp, hb, hj]
  have ho := opOk_iff (s := R.extract 0 (n + 8)) (by omega)
  rw [z8, show n + 8 - 4 = n + 4 by omega, hx] at ho
  rw [ho, hrec]
  have zs : (sealS (R.extract 0 (n + 4))).size = n + 8 := by rw [sealS_size, ByteArray.size_extract]; omega
  constructor
  · intro e
    constructor
    · have e2 := congrArg (fun x => x.extract (n + 8) (n + 12)) e
      rw [e2]
      have := ext_mid (sealS (R.extract 0 (n + 4))) (R.extract 0 4) ByteArray.empty (i := n + 8) (j := n + 12) zs.symm (by rw [zs, z4])
      rw [ByteArray.append_empty] at this
      exact this
    · have e2 := congrArg (fun x => x.extract 0 (n + 8)) e
      rw [e2]
      have := ext_mid ByteArray.empty (sealS (R.extract 0 (n + 4))) (R.extract 0 4) (i := 0) (j := n + 8) rfl (by rw [zs]; simp)
      rw [ByteArray.empty_append] at this
      exact this
  · rintro ⟨e1, e2⟩
    rw [← e1, ← e2, hw]

/-- Of a record the program takes the payload out of what was sealed. -/
theorem rec_take (R : ByteArray) (n : Nat) (hR : R.size = n + 12) (h : opOk (R.extract 0 (n + 8)) = true) : (opA (R.extract 0 (n + 8))).extract 4 (opA (R.extract 0 (n + 8))).size = R.extract 4 (4 + n) := by
  have z8 : (R.extract 0 (n + 8)).size = n + 8 := by rw [ByteArray.size_extract]; omega
  have hx : opA (R.extract 0 (n + 8)) = R.extract 0 (n + 4) := by
    unfold opA
    rw [if_pos h, z8, ByteArray.extract_extract]
    congr 1 <;> omega
  rw [hx, ByteArray.extract_extract, ByteArray.size_extract]
  congr 1 <;> omega
theorem opA_size (R : ByteArray) (n : Nat) (hR : R.size = n + 12) (h : opOk (R.extract 0 (n + 8)) = true) : (opA (R.extract 0 (n + 8))).size = n + 4 := by
  have z8 : (R.extract 0 (n + 8)).size = n + 8 := by rw [ByteArray.size_extract]; omega
  unfold opA
  rw [if_pos h, z8, ByteArray.size_extract]
  omega

/-- The program's Put. -/
theorem rput_no (p : ByteArray) (w : World) (hp : p.size ≤ maxLen) (h : 2000 < p.size) :
    Calls Try.prog 18 #[.string p] w fun e w' => e = .returned (.tuple #[.string ByteArray.empty, .int .i64 3]) ∧ Below w.heap.size w w' := by
  unfold maxLen at hp
  go_enter Try.func18, Try.ntmps18
  go_wp2
  go_ret2
  exact ⟨rfl, Below.refl _ _⟩

theorem rput_yes (p : ByteArray) (w : World) (h : p.size ≤ 2000) :
    Calls Try.prog 18 #[.string p] w fun e w' => e = .returned (.tuple #[.string (recS p), .int .i64 0]) ∧ Below w.heap.size w w' := by
  have H1 := Lib.hid fun W => put_some p.size 4 W (by omega) (by omega) (by omega)
  have hz : (bs (be 4 p.size) ++ p).size = p.size + 4 := by rw [ByteArray.size_append, bs_size, be_length]; omega
  have h4 : (bs (be 4 p.size)).size = 4 := by rw [bs_size, be_length]
  have a1 : ∀ w : World, (Op.stringOp .add (bs (be 4 p.size)) p).run Try.prog w = .ok (.string (bs (be 4 p.size) ++ p)) w := fun w => run_string_add_sum (P := Try.prog) (w := w) _ _ (by omega)
  have H2 := Lib.hid fun W => seal_any (bs (be 4 p.size) ++ p) W (by unfold maxLen; omega)
  have hs := sealS_size (bs (be 4 p.size) ++ p)
  have a2 : ∀ w : World, (Op.stringOp .add (sealS (bs (be 4 p.size) ++ p)) (bs (be 4 p.size))).run Try.prog w = .ok (.string (recS p)) w := fun w => run_string_add_sum (P := Try.prog) (w := w) _ _ (by omega)
  generalize recS p = R at *
  generalize sealS (bs (be 4 p.size) ++ p) = S at *
  generalize bs (be 4 p.size) ++ p = T at *
  generalize bs (be 4 p.size) = N at *
  clear hz h4 hs
  go_enter Try.func18, Try.ntmps18
  go_wp2_with fail
  refine (H1.out _).mono ?_
  rintro e w1 ⟨rfl, hb1⟩
  go_wp2_with fail
  refine (H2.out _).mono ?_
  rintro e w2 ⟨rfl, hb2⟩
  go_wp2
  go_ret2
  exact ⟨rfl, bj hb1 hb2⟩

theorem rput_any (p : ByteArray) (w : World) (hp : p.size ≤ maxLen) :
    Calls Try.prog 18 #[.string p] w fun e w' => e = .returned (.tuple #[.string (prS p), .int .i64 (prE p)]) ∧ Below w.heap.size w w' := by
  unfold prS prE
  by_cases h : 2000 < p.size
  · rw [if_pos h, if_pos h]; exact rput_no p w hp h
  · rw [if_neg h, if_neg h]; exact rput_yes p w (by omega)

/-- Can something stand there? -/
theorem place_any (s : ByteArray) (a : Int) (w : World) (hs : s.size ≤ maxLen) (wa : (Lit.int .i64 a).wf = true) :
    Calls Try.prog 29 #[.string s, .int .i64 a] w fun e w' => e = .returned (.bool (decide (0 ≤ a ∧ a ≤ s.size))) ∧ w = w' := by
  have hb := bounds_i64 wa
  unfold maxLen at hs
  by_cases h0 : 0 ≤ a
  · by_cases h1 : a ≤ s.size
    · rw [decide_eq_true ⟨h0, h1⟩]
      go_enter Try.func29, Try.ntmps29
      go_wp2
      go_ret
      exact ⟨rfl, rfl⟩
    · rw [decide_eq_false (fun h => h1 h.2)]
      go_enter Try.func29, Try.ntmps29
      go_wp2
      go_ret
      exact ⟨rfl, rfl⟩
  · rw [decide_eq_false (fun h => h0 h.1)]
    go_enter Try.func29, Try.ntmps29
    go_wp2
    go_ret
    exact ⟨rfl, rfl⟩

/-- The length of a payload that stands ahead. -/
theorem size_any (s : ByteArray) (w : World) (hs : s.size ≤ maxLen) (h4 : 4 ≤ s.size) :
    Calls Try.prog 44 #[.string s] w fun e w' => e = .returned (.tuple #[.int .i64 (if 2000 < getS (s.extract 0 4) then 0 else (getS (s.extract 0 4) : Nat)), .bool (decide (getS (s.extract 0 4) ≤ 2000))]) ∧ w = w' := by
  have H1 := Lib.hid fun W => get_any (s.extract 0 4) W (by unfold maxLen at *; rw [ByteArray.size_extract]; omega)
  have hn := getS_four (s.extract 0 4) (by rw [ByteArray.size_extract]; omega)
  generalize getS (s.extract 0 4) = n at *
  unfold maxLen at hs
  by_cases h : 2000 < n
  · rw [if_pos h, decide_eq_false (by omega)]
    go_enter Try.func44, Try.ntmps44
    go_wp2_with fail
    refine (H1.out _).mono ?_
    rintro e w1 ⟨rfl, rfl⟩
    go_wp2
    go_ret2
    exact ⟨rfl, rfl⟩
  · rw [if_neg h, decide_eq_true (by omega)]
    go_enter Try.func44, Try.ntmps44
    go_wp2_with fail
    refine (H1.out _).mono ?_
    rintro e w1 ⟨rfl, rfl⟩
    go_wp2
    go_ret2
    exact ⟨rfl, rfl⟩

/-- Whether the first bytes ask for a record that there is room for. -/
def askOk (s : ByteArray) : Bool := decide (12 ≤ s.size ∧ getS (s.extract 0 4) ≤ 2000 ∧ getS (s.extract 0 4) + 12 ≤ s.size)
def askS (s : ByteArray) : ByteArray := if askOk s = true then s.extract 0 (getS (s.extract 0 4) + 12) else ByteArray.empty

theorem asked_any (s : ByteArray) (w : World) (hs : s.size ≤ maxLen) :
    Calls Try.prog 40 #[.string s] w fun e w' => e = .returned (.tuple #[.string (askS s), .bool (askOk s)]) ∧ w = w' := by
  unfold askS
  by_cases h12 : 12 ≤ s.size
  · have H1 := Lib.hid fun W => size_any s W hs (by omega)
    have hn := getS_four (s.extract 0 4) (by rw [ByteArray.size_extract]; omega)
    have e0 : askOk s = decide (getS (s.extract 0 4) ≤ 2000 ∧ getS (s.extract 0 4) + 12 ≤ s.size) := by unfold askOk; simp [h12]
    rw [e0]
    clear e0
    generalize getS (s.extract 0 4) = n at *
    unfold maxLen at hs
    by_cases h : 2000 < n
    · rw [decide_eq_false (by omega), if_neg (by decide)]
      rw [decide_eq_false (by omega)] at H1
      go_enter Try.func40, Try.ntmps40
      go_wp2_with fail
      refine (H1.out _).mono ?_
      rintro e w1 ⟨rfl, rfl⟩
      go_wp2
      go_ret2
      exact ⟨rfl, rfl⟩
    · rw [decide_eq_true (show n ≤ 2000 by omega), if_neg h] at H1
      by_cases h2 : n + 12 ≤ s.size
      · rw [decide_eq_true ⟨by omega, h2⟩, if_pos rfl]
        have x1 : ((n : Int) + 12).toNat = n + 12 := by omega
        have y1 : ¬ (s.size : Int) - 12 < (n : Int) := by omega
        go_enter Try.func40, Try.ntmps40
        go_wp2_with fail
        refine (H1.out _).mono ?_
        rintro e w1 ⟨rfl, rfl⟩
        go_wp2
        go_ret2
        exact ⟨rfl, rfl⟩
      · rw [decide_eq_false (fun h => h2 h.2), if_neg (by decide)]
        have y1 : (s.size : Int) - 12 < (n : Int) := by omega
        go_enter Try.func40, Try.ntmps40
        go_wp2_with fail
        refine (H1.out _).mono ?_
        rintro e w1 ⟨rfl, rfl⟩
        go_wp2
        go_ret2
        exact ⟨rfl, rfl⟩
  · have e0 : askOk s = false := by unfold askOk; simp [h12]
    rw [e0, if_neg (by decide)]
    unfold maxLen at hs
    go_enter Try.func40, Try.ntmps40
    go_wp2
    go_ret2
    exact ⟨rfl, rfl⟩
end Go.Proofs.Ytoocejmimfhniaa

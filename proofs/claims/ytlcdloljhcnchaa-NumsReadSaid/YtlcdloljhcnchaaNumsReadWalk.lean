/- The walk of annalistlaw01.NumsRead. -/
import Derived.Test.YtlcdloljhcnchaaNumsPutEx
namespace Go.Proofs.Ytlcdloljhcnchaa.numsReadW
open Go.RowKit
set_option linter.unusedVariables false

theorem textS_eq {s : ByteArray} (h : s.size ≤ 65535) : textS s = bs (be 2 s.size) ++ s := by unfold textS; rw [if_pos h]
theorem textS_size {s : ByteArray} (h : s.size ≤ 65535) : (textS s).size = s.size + 2 := by
  rw [textS_eq h, ByteArray.size_append, bs_size, be_length]; omega
theorem data_size (s : ByteArray) : s.data.toList.length = s.size := Array.length_toList
theorem textS_data {s : ByteArray} (h : s.size ≤ 65535) : (textS s).data.toList = be 2 s.size ++ s.data.toList := by
  rw [textS_eq h]; simp [bs]
theorem rdLen_of {t : ByteArray} {n : Nat} {r : List UInt8} (hn : n ≤ 65535) (h : t.data.toList = be 2 n ++ r) : rdLen t = n := by
  unfold rdLen
  rw [h, List.take_append_of_le_length (by rw [be_length]; omega), List.take_of_length_le (by rw [be_length]; omega), un_be]
  omega
theorem rd_text {s b : ByteArray} (h : s.size ≤ 65535) : rdA (textS s ++ b) = s ∧ rdB (textS s ++ b) = b ∧ rdOk (textS s ++ b) = true := by
  have hd : (textS s ++ b).data.toList = be 2 s.size ++ (s.data.toList ++ b.data.toList) := by
    have := textS_data h
    simp only [ByteArray.data_append, Array.toList_append, this, List.append_assoc]
  have hl : rdLen (textS s ++ b) = s.size := rdLen_of h hd
  have hz : (textS s ++ b).size = s.size + 2 + b.size := by rw [ByteArray.size_append, textS_size h]
  obtain ⟨e1, e2, e3⟩ := rd_yes (s := textS s ++ b) ⟨by omega, by omega⟩
  refine ⟨?_, ?_, e1⟩
  · rw [e2, hl]
    apply ByteArray.ext
    apply Array.toList_inj.1
    rw [ByteArray.data_extract, Array.toList_extract, hd, List.extract, List.drop_left' (be_length 2 _), List.take_left' (by rw [data_size]; omega)]
  · rw [e3, hl]
    apply ByteArray.ext
    apply Array.toList_inj.1
    rw [ByteArray.data_extract, Array.toList_extract, hd, hz, List.extract, ← List.drop_drop, List.drop_left' (be_length 2 _), List.drop_left' (data_size s), List.take_of_length_le (by rw [data_size]; omega)]
theorem rd_cut {s : ByteArray} (h : s.size ≤ 65535) {c : Nat} (hc : c < s.size + 2) : rdA ((textS s).extract 0 c) = ⟨#[]⟩ ∧ rdB ((textS s).extract 0 c) = ⟨#[]⟩ ∧ rdOk ((textS s).extract 0 c) = false := by
  have hz : ((textS s).extract 0 c).size = c := by rw [ByteArray.size_extract, textS_size h]; omega
  obtain ⟨e1, e2, e3⟩ := rd_no (s := (textS s).extract 0 c) (by
    rw [hz]
    rintro ⟨h2, h3⟩
    have hl : rdLen ((textS s).extract 0 c) = s.size := by
      unfold rdLen
      have : ((textS s).extract 0 c).data.toList.take 2 = (textS s).data.toList.take 2 := by
        rw [ByteArray.data_extract, Array.toList_extract]
        simp [List.extract, List.take_take]; omega
      rw [this]
      exact rdLen_of h (textS_data h)
    omega)
  exact ⟨e2, e3, e1⟩

theorem long (a0 a1 : ByteArray) (a2 : Int) (h0 : a0.size ≤ maxLen) (h1 : a1.size ≤ maxLen) (h : 2000 < a0.size ∨ 1000 < a1.size) (w : World) :
    Calls Try.prog 6 #[.string a0, .string a1, .int .u16 a2] w fun e w' => e = .returned (.bool true) ∧ Below w.heap.size w w' := by
  unfold maxLen at h0 h1
  by_cases hh : 2000 < a0.size
  · go_enter Try.func6, Try.ntmps6
    go_wp2_with (go_at_call 7; refine (put_true _).mono ?_; rintro e w' ⟨rfl, hb⟩)
    go_ret
    exact ⟨rfl, ‹Below _ _ _›⟩
  · have hh1 : 1000 < a1.size := by omega
    go_enter Try.func6, Try.ntmps6
    go_wp2_with (go_at_call 7; refine (put_true _).mono ?_; rintro e w' ⟨rfl, hb⟩)
    go_ret
    exact ⟨rfl, ‹Below _ _ _›⟩

set_option maxHeartbeats 1000000 in
theorem short (a0 a1 : ByteArray) (c : Nat) (h0 : a0.size ≤ 2000) (h1 : a1.size ≤ 1000) (hc : c ≤ 65535) (w : World) :
    Calls Try.prog 6 #[.string a0, .string a1, .int .u16 (c : Nat)] w fun e w' => e = .returned (.bool true) ∧ Below w.heap.size w w' := by
  obtain ⟨r1, r2, r3⟩ := rd_text (s := a0) (b := a1) (by omega)
  have hsz := textS_size (s := a0) (by omega)
  have hcut := fun k hk => rd_cut (s := a0) (by omega) (c := k) hk
  have ht : ∀ w, Calls Try.prog 14 #[.string a0] w fun e w' => e = .returned (.string (textS a0)) ∧ Below w.heap.size w w' := fun w => text_any a0 w (by unfold maxLen; omega)
  generalize textS a0 = t at *
  have hr1 : ∀ w, Calls Try.prog 12 #[.string (t ++ a1)] w fun e w' => e = .returned (.tuple #[.string a0, .string a1, .bool true]) ∧ Below w.heap.size w w' := fun w => by
    have := read_any (t ++ a1) w (by unfold maxLen; rw [ByteArray.size_append]; omega)
    rwa [r1, r2, r3] at this
  have hm : c % t.size < t.size := Nat.mod_lt _ (by omega)
  have hr2 : ∀ w, Calls Try.prog 12 #[.string (t.extract 0 (c % t.size))] w fun e w' => e = .returned (.tuple #[.string ⟨#[]⟩, .string ⟨#[]⟩, .bool false]) ∧ Below w.heap.size w w' := fun w => by
    have := read_any (t.extract 0 (c % t.size)) w (by unfold maxLen; rw [ByteArray.size_extract]; omega)
    obtain ⟨x1, x2, x3⟩ := hcut (c % t.size) (by omega)
    rwa [x1, x2, x3] at this
  have hadd : ∀ wx : World, (Op.stringOp .add t a1).run Try.prog wx = .ok (.string (t ++ a1)) wx := fun wx => run_string_add_sum (P := Try.prog) (w := wx) t a1 (by omega)
  have Ht := Lib.hid ht
  have Hr1 := Lib.hid hr1
  have Hr2 := Lib.hid hr2
  have hp : (0 : Int) < (t.size : Int) := by omega
  have e1 : ((t.size : Int) != (a0.size : Int) + 2) = false := by rw [hsz]; simp
  clear hcut r1 r2 r3 ht hr1 hr2 hsz
  go_enter Try.func6, Try.ntmps6
  go_wp2_with fail
  refine (Ht.out _).mono ?_
  rintro e w1 ⟨rfl, hb1⟩
  go_wp2_with fail
  refine (Hr1.out _).mono ?_
  rintro e w2 ⟨rfl, hb2⟩
  go_wp2_with fail
  refine (Hr2.out _).mono ?_
  rintro e w3 ⟨rfl, hb3⟩
  go_wp2_with fail
  refine (put_true _).mono ?_
  rintro e w4 ⟨rfl, hb4⟩
  go_wp2
  go_ret
  exact ⟨rfl, bj hb1 (bj hb2 (bj hb3 hb4))⟩

theorem walk (a0 a1 : ByteArray) (a2 : Int) (w0 : a0.size ≤ maxLen) (w1 : a1.size ≤ maxLen) (w2 : (Lit.int .u16 a2).wf = true) (w : World) :
    Calls Try.prog 6 #[.string a0, .string a1, .int .u16 a2] w fun e w' => e = .returned (.bool true) ∧ Below w.heap.size w w' := by
  by_cases h : a0.size ≤ 2000 ∧ a1.size ≤ 1000
  · have hb := bounds_u16 w2
    obtain ⟨c, rfl⟩ : ∃ c : Nat, a2 = c := ⟨a2.toNat, by omega⟩
    exact short a0 a1 c h.1 h.2 (by omega) w
  · exact long a0 a1 a2 w0 w1 (by omega) w
end Go.Proofs.Ytlcdloljhcnchaa.numsReadW

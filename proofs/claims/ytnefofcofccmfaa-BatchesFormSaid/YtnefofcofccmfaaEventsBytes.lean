/- What is put of events is read, and what is read was put: plain texts, no program. -/
import Derived.Test.YtnefofcofccmfaaEventsMath
namespace Go.Proofs.Ytnefofcofccmfaa
open Go.RowKit
set_option linter.unusedVariables false

theorem data_len (s : ByteArray) : s.data.toList.length = s.size := Array.length_toList
theorem rdLen_of {t : ByteArray} {n : Nat} {r : List UInt8} (hn : n ≤ 65535) (h : t.data.toList = be 2 n ++ r) : rdLen t = n := by
  unfold rdLen
  rw [h, List.take_append_of_le_length (by rw [be_length]; omega), List.take_of_length_le (by rw [be_length]; omega), un_be]
  omega
/-- A text that is put is read, whatever stands behind it. -/
theorem rd_put {t r : ByteArray} (h : t.size ≤ 65535) : rdA (bs (be 2 t.size) ++ t ++ r) = t ∧ rdB (bs (be 2 t.size) ++ t ++ r) = r ∧ rdOk (bs (be 2 t.size) ++ t ++ r) = true := by
  have hd : (bs (be 2 t.size) ++ t ++ r).data.toList = be 2 t.size ++ (t.data.toList ++ r.data.toList) := by
    simp only [ByteArray.data_append, Array.toList_append, List.append_assoc, bs]
  have hl : rdLen (bs (be 2 t.size) ++ t ++ r) = t.size := rdLen_of h hd
  have hz : (bs (be 2 t.size) ++ t ++ r).size = t.size + 2 + r.size := by rw [ByteArray.size_append, ByteArray.size_append, bs_size, be_length]; omega
  obtain ⟨e1, e2, e3⟩ := rd_yes (s := bs (be 2 t.size) ++ t ++ r) ⟨by omega, by omega⟩
  refine ⟨?_, ?_, e1⟩
  · rw [e2, hl]
    apply ByteArray.ext
    apply Array.toList_inj.1
    rw [ByteArray.data_extract, Array.toList_extract, hd, List.extract, List.drop_left' (be_length 2 _), List.take_left' (by rw [data_len]; omega)]
  · rw [e3, hl]
    apply ByteArray.ext
    apply Array.toList_inj.1
    rw [ByteArray.data_extract, Array.toList_extract, hd, hz, List.extract, ← List.drop_drop, List.drop_left' (be_length 2 _), List.drop_left' (data_len t), List.take_of_length_le (by rw [data_len]; omega)]
/-- What is read was put. -/
theorem rd_whole {s : ByteArray} (h : rdOk s = true) : bs (be 2 (rdA s).size) ++ rdA s ++ rdB s = s := by
  have h' : 2 ≤ s.size ∧ rdLen s + 2 ≤ s.size := by simpa [rdOk] using h
  obtain ⟨_, e2, e3⟩ := rd_yes h'
  have hz : (rdA s).size = rdLen s := by rw [e2, ByteArray.size_extract]; omega
  rw [hz, e2, e3]
  apply ByteArray.ext
  apply Array.toList_inj.1
  have hl : s.data.toList.length = s.size := data_len s
  have hb : be 2 (rdLen s) = s.data.toList.take 2 := by
    have := be_un (s.data.toList.take 2)
    rw [List.length_take, hl, Nat.min_eq_left h'.1] at this
    exact this
  simp only [ByteArray.data_append, Array.toList_append, ByteArray.data_extract, Array.toList_extract, List.extract, bs, hb]
  rw [Nat.add_sub_cancel_left, List.append_assoc, List.take_of_length_le (l := List.drop (2 + rdLen s) s.data.toList) (by rw [List.length_drop]; omega), ← List.drop_drop, List.take_append_drop, List.take_append_drop]
/-- The eight bytes that stand ahead. -/
theorem get_whole {L : ByteArray} (h : 8 ≤ L.size) : bs (be 8 (getS L)) ++ L.extract 8 L.size = L := by
  apply ByteArray.ext
  apply Array.toList_inj.1
  have hl : L.data.toList.length = L.size := data_len L
  have hb : be 8 (getS L) = L.data.toList.take 8 := by
    have := be_un (L.data.toList.take 8)
    rw [List.length_take, hl, Nat.min_eq_left h] at this
    exact this
  simp only [ByteArray.data_append, Array.toList_append, ByteArray.data_extract, Array.toList_extract, List.extract, bs, hb]
  rw [List.take_of_length_le (l := List.drop 8 L.data.toList) (by rw [List.length_drop]; omega), List.take_append_drop]
theorem get_put {b : Nat} (hb : b < 18446744073709551616) (r : ByteArray) : getS (bs (be 8 b) ++ r) = b ∧ (bs (be 8 b) ++ r).extract 8 (bs (be 8 b) ++ r).size = r := by
  have hd : (bs (be 8 b) ++ r).data.toList = be 8 b ++ r.data.toList := by simp only [ByteArray.data_append, Array.toList_append, bs]
  have hz : (bs (be 8 b) ++ r).size = 8 + r.size := by rw [ByteArray.size_append, bs_size, be_length]
  constructor
  · unfold getS
    rw [hd, List.take_left' (be_length 8 b), un_be]
    exact Nat.mod_eq_of_lt (by omega)
  · apply ByteArray.ext
    apply Array.toList_inj.1
    rw [ByteArray.data_extract, Array.toList_extract, hd, hz, List.extract, List.drop_left' (be_length 8 b), List.take_of_length_le (by rw [data_len]; omega)]

theorem er_back (t d : ByteArray) (b : Nat) (r : ByteArray) (hk : chk t d = 0) (hb : b < 18446744073709551616) :
    erOk (evB t d b ++ r) = true ∧ erT (evB t d b ++ r) = t ∧ erD (evB t d b ++ r) = d ∧ erW (evB t d b ++ r) = b ∧ erR (evB t d b ++ r) = r := by
  have hz := chk_zero.1 hk
  have e : evB t d b ++ r = bs (be 2 t.size) ++ t ++ (bs (be 2 d.size) ++ d ++ (bs (be 8 b) ++ r)) := by unfold evB; simp only [ByteArray.append_assoc]
  obtain ⟨a1, a2, a3⟩ := rd_put (t := t) (r := bs (be 2 d.size) ++ d ++ (bs (be 8 b) ++ r)) (by omega)
  obtain ⟨b1, b2, b3⟩ := rd_put (t := d) (r := bs (be 8 b) ++ r) (by omega)
  obtain ⟨g1, g2⟩ := get_put hb r
  rw [e]
  have hL : erL (bs (be 2 t.size) ++ t ++ (bs (be 2 d.size) ++ d ++ (bs (be 8 b) ++ r))) = bs (be 8 b) ++ r := by unfold erL; rw [a2, b2]
  have hok : erOk (bs (be 2 t.size) ++ t ++ (bs (be 2 d.size) ++ d ++ (bs (be 8 b) ++ r))) = true := by
    unfold erOk
    rw [hL, a1, a2, b1, hk, ByteArray.size_append, bs_size, be_length]
    simp
  obtain ⟨q1, q2, q3, q4⟩ := er_yes hok
  refine ⟨hok, ?_, ?_, ?_, ?_⟩
  · rw [q1, a1]
  · rw [q2, a2, b1]
  · rw [q3, hL, g1]
  · rw [q4, hL, g2]

theorem er_form {s : ByteArray} (h : erOk s = true) : chk (erT s) (erD s) = 0 ∧ evB (erT s) (erD s) (erW s) ++ erR s = s := by
  obtain ⟨q1, q2, q3, q4⟩ := er_yes h
  have h' : 8 ≤ (erL s).size ∧ chk (rdA s) (rdA (rdB s)) = 0 := by simpa [erOk] using h
  obtain ⟨o1, o2⟩ := rdOk_two s (by omega)
  refine ⟨by rw [q1, q2]; exact h'.2, ?_⟩
  rw [q1, q2, q3, q4]
  have w1 := rd_whole o1
  have w2 := rd_whole o2
  have w3 := get_whole h'.1
  have e : evB (rdA s) (rdA (rdB s)) (getS (erL s)) ++ (erL s).extract 8 (erL s).size = bs (be 2 (rdA s).size) ++ rdA s ++ (bs (be 2 (rdA (rdB s)).size) ++ rdA (rdB s) ++ (bs (be 8 (getS (erL s))) ++ (erL s).extract 8 (erL s).size)) := by unfold evB; simp only [ByteArray.append_assoc]
  rw [e, w3]
  have e2 : erL s = rdB (rdB s) := rfl
  rw [e2, w2, w1]

theorem er_cut (t d : ByteArray) (b : Nat) (hk : chk t d = 0) (hb : b < 18446744073709551616) (c : Nat) (hc : c < (evB t d b).size) : erOk ((evB t d b).extract 0 c) = false := by
  cases e : erOk ((evB t d b).extract 0 c) with
  | false => rfl
  | true =>
    exfalso
    obtain ⟨hk', hw⟩ := er_form e
    have hb' := erW_lt ((evB t d b).extract 0 c)
    generalize erT ((evB t d b).extract 0 c) = t' at *
    generalize erD ((evB t d b).extract 0 c) = d' at *
    generalize erW ((evB t d b).extract 0 c) = b' at *
    generalize erR ((evB t d b).extract 0 c) = r' at *
    have hwh : evB t' d' b' ++ (r' ++ (evB t d b).extract c (evB t d b).size) = evB t d b ++ ByteArray.empty := by
      rw [← ByteArray.append_assoc, hw, ByteArray.extract_append_extract]
      simp
    obtain ⟨_, _, _, _, f5⟩ := er_back t' d' b' (r' ++ (evB t d b).extract c (evB t d b).size) hk' hb'
    obtain ⟨_, _, _, _, g5⟩ := er_back t d b ByteArray.empty hk hb
    rw [hwh, g5] at f5
    have hs := congrArg ByteArray.size f5
    rw [ByteArray.size_append, ByteArray.size_extract] at hs
    have : ByteArray.empty.size = 0 := rfl
    omega
end Go.Proofs.Ytnefofcofccmfaa

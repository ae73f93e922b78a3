/- A record that was put stands, whatever stands around it, and is found from both ends. Plain texts. -/
import Derived.Test.YtoocejmimfhniaaRecMath
namespace Go.Proofs.Ytoocejmimfhniaa
open Go.RowKit
set_option linter.unusedVariables false

theorem ext_mid (a x b : ByteArray) {i j : Nat} (hi : i = a.size) (hj : j = a.size + x.size) : (a ++ x ++ b).extract i j = x := by
  subst hi hj
  rw [ByteArray.append_assoc]
  apply ByteArray.ext
  apply Array.toList_inj.1
  have ha : a.data.toList.length = a.size := Array.length_toList
  have hx : x.data.toList.length = x.size := Array.length_toList
  rw [ByteArray.data_extract, Array.toList_extract, List.extract]
  simp only [ByteArray.data_append, Array.toList_append]
  rw [List.drop_left' ha, Nat.add_sub_cancel_left, List.take_left' hx]
theorem rec_parts (p : ByteArray) : recS p = bs (be 4 p.size) ++ (p ++ (bs (tailS (bs (be 4 p.size) ++ p).data.toList) ++ bs (be 4 p.size))) := by
  unfold recS sealS
  simp only [ByteArray.append_assoc]
theorem get_four (n : Nat) (h : n < 4294967296) : getS (bs (be 4 n)) = n := by
  unfold getS
  have : (bs (be 4 n)).data.toList = be 4 n := by simp [bs]
  rw [this, List.take_of_length_le (by rw [be_length]; omega), un_be]
  exact Nat.mod_eq_of_lt (by omega)
theorem rec_len (a p b : ByteArray) (hp : p.size ≤ 2000) : gtLen (a ++ recS p ++ b) a.size = p.size := by
  unfold gtLen
  have e : a ++ recS p ++ b = a ++ bs (be 4 p.size) ++ ((p ++ (bs (tailS (bs (be 4 p.size) ++ p).data.toList) ++ bs (be 4 p.size))) ++ b) := by
    rw [rec_parts]
    simp only [ByteArray.append_assoc]
  rw [e, ext_mid _ _ _ rfl (by rw [bs_size, be_length]), get_four _ (by omega)]
theorem rec_load (a p b : ByteArray) : (a ++ recS p ++ b).extract (a.size + 4) (a.size + 4 + p.size) = p := by
  have e : a ++ recS p ++ b = (a ++ bs (be 4 p.size)) ++ p ++ ((bs (tailS (bs (be 4 p.size) ++ p).data.toList) ++ bs (be 4 p.size)) ++ b) := by
    rw [rec_parts]
    simp only [ByteArray.append_assoc]
  rw [e]
  exact ext_mid _ _ _ (by rw [ByteArray.size_append, bs_size, be_length]) (by rw [ByteArray.size_append, bs_size, be_length])
theorem rec_last (a p b : ByteArray) (hp : p.size ≤ 2000) : bkLen (a ++ recS p ++ b) (a.size + (p.size + 12)) = p.size := by
  unfold bkLen
  have e : a ++ recS p ++ b = (a ++ (bs (be 4 p.size) ++ p ++ bs (tailS (bs (be 4 p.size) ++ p).data.toList))) ++ bs (be 4 p.size) ++ b := by
    rw [rec_parts]
    simp only [ByteArray.append_assoc]
  have hz : (a ++ (bs (be 4 p.size) ++ p ++ bs (tailS (bs (be 4 p.size) ++ p).data.toList))).size = a.size + (p.size + 8) := by
    simp only [ByteArray.size_append, bs_size, be_length, tailS_length]
    omega
  rw [e, ext_mid _ _ _ (by rw [hz]; omega) (by rw [hz, bs_size, be_length]; omega), get_four _ (by omega)]

/-- A record stands where it was put. -/
theorem rec_stands (a p b : ByteArray) (hp : p.size ≤ 2000) : gtOk (a ++ recS p ++ b) a.size = true ∧ getP (a ++ recS p ++ b) (a.size : Nat) = p ∧ getN (a ++ recS p ++ b) (a.size : Nat) = a.size + (p.size + 12) := by
  have h1 := rec_len a p b hp
  have h2 := rec_load a p b
  have hz : (a ++ recS p ++ b).size = a.size + (p.size + 12) + b.size := by rw [ByteArray.size_append, ByteArray.size_append, recS_size]
  have hok : gtOk (a ++ recS p ++ b) a.size = true := by
    rw [gtOk_iff, h1, h2]
    refine ⟨by omega, hp, by omega, ?_⟩
    exact ext_mid _ _ _ rfl (by rw [recS_size]; omega)
  obtain ⟨_, e2, e3⟩ := gt_yes hok
  refine ⟨hok, ?_, ?_⟩
  · rw [e2, h1, h2]
  · rw [e3, h1]; omega
/-- And it is found from its end. -/
theorem rec_back (a p b : ByteArray) (hp : p.size ≤ 2000) : bkOk (a ++ recS p ++ b) ((a.size + (p.size + 12) : Nat) : Int) = true ∧ bkP (a ++ recS p ++ b) ((a.size + (p.size + 12) : Nat) : Int) = p ∧ bkA (a ++ recS p ++ b) ((a.size + (p.size + 12) : Nat) : Int) = a.size := by
  have hl := rec_last a p b hp
  obtain ⟨g1, g2, g3⟩ := rec_stands a p b hp
  have hz : (a ++ recS p ++ b).size = a.size + (p.size + 12) + b.size := by rw [ByteArray.size_append, ByteArray.size_append, recS_size]
  have hs : a.size + (p.size + 12) - 12 - p.size = a.size := by omega
  have hok : bkOk (a ++ recS p ++ b) ((a.size + (p.size + 12) : Nat) : Int) = true := by
    unfold bkOk
    rw [Int.toNat_natCast, hl, hs, g1, g3, decide_eq_true (by rw [hz]; omega), decide_eq_true rfl]
    rfl
  refine ⟨hok, ?_, ?_⟩
  · unfold bkP
    rw [if_pos hok, Int.toNat_natCast, hl, hs, g2]
  · unfold bkA
    rw [if_pos hok, Int.toNat_natCast, hl, hs]
/-- Where it is cut off nothing stands. -/
theorem rec_torn (a p b : ByteArray) (hp : p.size ≤ 2000) (k : Nat) (h1 : a.size ≤ k) (h2 : k < a.size + (p.size + 12)) : gtOk ((a ++ recS p ++ b).extract 0 k) a.size = false := by
  have hz : (a ++ recS p ++ b).size = a.size + (p.size + 12) + b.size := by rw [ByteArray.size_append, ByteArray.size_append, recS_size]
  have hzk : ((a ++ recS p ++ b).extract 0 k).size = k := by rw [ByteArray.size_extract, hz]; omega
  apply gtOk_false
  rw [hzk]
  rintro ⟨q1, q2, q3, _⟩
  have hl : gtLen ((a ++ recS p ++ b).extract 0 k) a.size = p.size := by
    rw [← rec_len a p b hp]
    unfold gtLen
    rw [ByteArray.extract_extract]
    congr 1
    congr 1 <;> omega
  omega
end Go.Proofs.Ytoocejmimfhniaa

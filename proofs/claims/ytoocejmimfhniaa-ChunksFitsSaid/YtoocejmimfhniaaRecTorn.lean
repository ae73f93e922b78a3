/- Of a row that is cut off just the records that are whole are found. Plain texts. -/
import Derived.Test.YtoocejmimfhniaaRecRow
namespace Go.Proofs.Ytoocejmimfhniaa
open Go.RowKit
set_option linter.unusedVariables false

theorem cut_app (x y : ByteArray) (k : Nat) (h : x.size ≤ k) : (x ++ y).extract 0 k = x ++ y.extract 0 (k - x.size) := by
  apply ByteArray.ext
  apply Array.toList_inj.1
  have hx : x.data.toList.length = x.size := Array.length_toList
  simp only [ByteArray.data_append, Array.toList_append, ByteArray.data_extract, Array.toList_extract, List.extract, List.drop_zero, Nat.sub_zero]
  rw [List.take_append, hx, List.take_of_length_le (by omega)]
theorem rowAt_cons (a : ByteArray) (p : ByteArray) (l : List ByteArray) : rowAt a (p :: l) = (a.size : Int) :: rowAt (a ++ recS p) l := by
  unfold rowAt
  rw [List.length_cons, List.range_succ_eq_map, List.map_cons, List.map_map]
  congr 1
theorem rowS_cons (a p : ByteArray) (l : List ByteArray) : rowS a (p :: l) = rowS (a ++ recS p) l := rfl

theorem torn : ∀ (l : List ByteArray) (a : ByteArray) (k m : Nat), (∀ p ∈ l, p.size ≤ 988) → a.size ≤ k → k ≤ (rowS a l).size → m ≤ l.length → (rowS a (l.take m)).size ≤ k → (m < l.length → k < (rowS a (l.take (m + 1))).size) →
    whL ((rowS a l).extract 0 k) (((rowS a l).extract 0 k).size + 1) a.size = (rowAt a l).take m ∧ whE ((rowS a l).extract 0 k) (((rowS a l).extract 0 k).size + 1) a.size = (rowS a (l.take m)).size := by
  intro l
  induction l with
  | nil =>
    intro a k m _ h1 h2 hm _ _
    obtain rfl : m = 0 := by simpa using hm
    have hk : k = a.size := by
      have : (rowS a []).size = a.size := rfl
      omega
    have hz : ((rowS a []).extract 0 k).size = k := by rw [ByteArray.size_extract]; omega
    obtain ⟨e1, e2⟩ := wh_stop (s := (rowS a []).extract 0 k) (k := a.size) (gtOk_false (by rw [hz]; omega))
    rw [e1, e2]
    exact ⟨by simp, by simp [rowS]⟩
  | cons p l ih =>
    intro a k m hp h1 h2 hm h3 h4
    have hp0 := hp p List.mem_cons_self
    have hz0 : (a ++ recS p).size = a.size + (p.size + 12) := by rw [ByteArray.size_append, recS_size]
    have hsp : rowS a (p :: l) = (a ++ recS p) ++ rowS ByteArray.empty l := by rw [rowS_cons, rowS_split]
    cases m with
    | zero =>
      have h5 := h4 (by simp)
      have hz1 : (rowS a ((p :: l).take (0 + 1))).size = a.size + (p.size + 12) := by
        show (rowS (a ++ recS p) (l.take 0)).size = _
        rw [List.take_zero]
        exact hz0
      rw [hz1] at h5
      obtain ⟨e1, e2⟩ := wh_stop (s := (rowS a (p :: l)).extract 0 k) (k := a.size) (by rw [hsp]; exact rec_torn a p _ (by omega) k h1 h5)
      rw [e1, e2]
      exact ⟨by simp, by simp [rowS]⟩
    | succ m =>
      have h3' : (rowS (a ++ recS p) (l.take m)).size ≤ k := h3
      have hge : (a ++ recS p).size ≤ k := by
        have := rowS_split (l.take m) (a ++ recS p)
        rw [this, ByteArray.size_append] at h3'
        omega
      have hcut : (rowS a (p :: l)).extract 0 k = a ++ recS p ++ (rowS ByteArray.empty l).extract 0 (k - (a ++ recS p).size) := by rw [hsp, cut_app _ _ _ hge]
      obtain ⟨g1, _, g3⟩ := rec_stands a p ((rowS ByteArray.empty l).extract 0 (k - (a ++ recS p).size)) (by omega)
      rw [← hcut] at g1 g3
      have hkz : ((rowS a (p :: l)).extract 0 k).size = k := by rw [ByteArray.size_extract]; omega
      obtain ⟨e1, e2⟩ := wh_step (s := (rowS a (p :: l)).extract 0 k) (k := a.size) (by rw [hkz]; exact h1) g1
      obtain ⟨i1, i2⟩ := ih (a ++ recS p) k m (fun q hq => hp q (List.mem_cons_of_mem _ hq)) hge h2 (by simp at hm; omega) h3' (fun h => h4 (by simp; omega))
      rw [e1, e2, g3, ← hz0]
      refine ⟨?_, i2⟩
      rw [rowAt_cons, List.take_succ_cons]
      congr 1
end Go.Proofs.Ytoocejmimfhniaa

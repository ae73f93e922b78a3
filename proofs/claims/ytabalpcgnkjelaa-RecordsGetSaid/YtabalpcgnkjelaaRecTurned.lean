/- A record that is turned over within four bytes, its first four left, stands there no more. Plain texts. -/
import Derived.Test.YtabalpcgnkjelaaRecStands
import Derived.Test.YtabalpcgnkjelaaTwist
namespace Go.Proofs.Ytabalpcgnkjelaa
open Go.RowKit
set_option linter.unusedVariables false

theorem rec_list (p : ByteArray) : (recS p).data.toList = (be 4 p.size ++ p.data.toList ++ tailS (be 4 p.size ++ p.data.toList)) ++ be 4 p.size := by
  have e : (bs (be 4 p.size) ++ p).data.toList = be 4 p.size ++ p.data.toList := by simp [bs]
  unfold recS sealS
  rw [e]
  simp [bs]
theorem rec_head (p : ByteArray) : (recS p).data.toList.take 4 = be 4 p.size := by
  rw [rec_list, List.append_assoc, List.append_assoc, List.take_left' (be_length 4 _)]

theorem rec_turned (p : ByteArray) (y k : Nat) (hp : p.size ≤ 2000) (hy : y < 4294967296) (h0 : y ≠ 0) (hk : 4 ≤ k) (hk2 : k + 4 ≤ p.size + 12) :
    gtOk (bs (tw y k 4 (recS p).data.toList)) 0 = false := by
  have hL : (recS p).data.toList.length = p.size + 12 := by rw [← recS_size]; exact Array.length_toList
  have hh := rec_head p
  have hr := rec_list p
  have hne := tw_other y k (recS p).data.toList hy h0 (by omega)
  have hT := tw_length y k 4 (recS p).data.toList
  have hout := tw_out y k 4 (recS p).data.toList
  generalize tw y k 4 (recS p).data.toList = T at *
  generalize (recS p).data.toList = L at *
  have hpl : p.data.toList.length = p.size := Array.length_toList
  have ht4 : T.take 4 = be 4 p.size := by
    rw [← hh]
    apply List.ext_getElem?
    intro j
    rw [List.getElem?_take, List.getElem?_take]
    split
    · exact hout j (Or.inl (by omega))
    · rfl
  have hlen : gtLen (bs T) 0 = p.size := by
    unfold gtLen
    have e : (bs T).extract 0 (0 + 4) = bs (T.take 4) := by
      apply ByteArray.ext
      apply Array.toList_inj.1
      simp [bs]
    rw [e, ht4]
    exact get_four _ (by omega)
  apply gtOk_false
  rintro ⟨_, _, _, he⟩
  rw [hlen] at he
  obtain ⟨q, hq⟩ : ∃ q, (bs T).extract (0 + 4) (0 + 4 + p.size) = q := ⟨_, rfl⟩
  rw [hq] at he
  have hqs : q.size = p.size := by rw [← hq, ByteArray.size_extract, bs_size, hT, hL]; omega
  have hql : q.data.toList.length = q.size := Array.length_toList
  have hx : (bs T).extract 0 (0 + p.size + 12) = bs T := by
    apply ByteArray.ext
    apply Array.toList_inj.1
    simp [bs]
    exact List.take_of_length_le (by rw [hT, hL]; omega)
  rw [hx] at he
  have hTq : T = (recS q).data.toList := by rw [← he]; simp [bs]
  rw [rec_list q, hqs] at hTq
  have f1 := (sealed_iff (be 4 p.size ++ p.data.toList) _ (tailS_length _)).1 rfl
  have f2 := (sealed_iff (be 4 p.size ++ q.data.toList) _ (tailS_length _)).1 rfl
  have l1 : (be 4 p.size ++ p.data.toList ++ tailS (be 4 p.size ++ p.data.toList)).length = p.size + 8 := by simp only [List.length_append, be_length, tailS_length, hpl]; omega
  have l2 : (be 4 p.size ++ q.data.toList ++ tailS (be 4 p.size ++ q.data.toList)).length = p.size + 8 := by simp only [List.length_append, be_length, tailS_length, hql, hqs]; omega
  generalize be 4 p.size ++ p.data.toList ++ tailS (be 4 p.size ++ p.data.toList) = M at *
  generalize be 4 p.size ++ q.data.toList ++ tailS (be 4 p.size ++ q.data.toList) = M' at *
  apply hne
  have hw := window (x := 4294967295) (by decide) M' M k (by omega) (fun j hj => by
    by_cases h : j < p.size + 8
    · have h1 := hout j hj
      rw [hTq, hr, List.getElem?_append_left (by omega), List.getElem?_append_left (by omega)] at h1
      exact h1
    · rw [List.getElem?_eq_none (by omega), List.getElem?_eq_none (by omega)]) (by rw [f1, f2])
  rw [hTq, hr, hw]
end Go.Proofs.Ytabalpcgnkjelaa

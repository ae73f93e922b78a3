/- Heads of different numbers differ; a head of which a byte is another one is none. -/
import Derived.Test.YtoocejmimfhniaaChunksRef
namespace Go.Proofs.Ytoocejmimfhniaa
open Go.RowKit
set_option linter.unusedVariables false

theorem hd_byte_all : (List.range 200).all (fun n => (hdS (n : Nat)).data.toList.getD 7 0 == UInt8.ofNat n) = true := by kernel_rfl
theorem hd_byte {n : Nat} (h : n ≤ 199) : (hdS (n : Nat)).data.toList.getD 7 0 = UInt8.ofNat n := by
  have := List.all_eq_true.1 hd_byte_all n (List.mem_range.2 (by omega))
  exact eq_of_beq this
theorem hd_inj {a b : Nat} (ha : a ≤ 199) (hb : b ≤ 199) (h : hdS (a : Nat) = hdS (b : Nat)) : a = b := by
  have h1 := hd_byte ha
  rw [h, hd_byte hb] at h1
  have h2 := congrArg UInt8.toNat h1
  rw [UInt8.toNat_ofNat_of_lt' (by simp [UInt8.size]; omega), UInt8.toNat_ofNat_of_lt' (by simp [UInt8.size]; omega)] at h2
  exact h2.symm
/-- What a text of 12 bytes or more is, by its first 12. -/
theorem sc_long {k : Nat} (hk : k ≤ 199) (T : ByteArray) (hT : 12 ≤ T.size) :
    scOk T (k : Nat) = decide (T.extract 0 12 = hdS (k : Nat)) ∧ (scOk T (k : Nat) = false → scL T (k : Nat) = [] ∧ scE T (k : Nat) = 0) := by
  have hx : (hdS (k : Nat)).extract 0 12 = hdS (k : Nat) := by rw [← hd_size hk]; exact ByteArray.extract_zero_size
  by_cases h : T.extract 0 12 = hdS (k : Nat)
  · obtain ⟨e1, e2, e3⟩ := sc_2 (scK_whole (s := T) (n := (k : Nat)) (by omega) (by rw [Nat.min_eq_right hT, hx]; exact h) (by omega))
    refine ⟨by rw [e3, decide_eq_true h], fun q => by rw [e3] at q; cases q⟩
  · obtain ⟨e1, e2, e3⟩ := sc_0 (scK_bad (s := T) (n := (k : Nat)) (by omega) (by rw [Nat.min_eq_right hT, hx]; exact h))
    exact ⟨by rw [e3, decide_eq_false h], fun _ => ⟨e1, e2⟩⟩
theorem sc_of {a b : Nat} (ha : a ≤ 199) (hb : b ≤ 199) (r : ByteArray) : scOk (hdS (a : Nat) ++ r) (b : Nat) = decide (a = b) := by
  have hz := hd_size ha
  rw [(sc_long hb _ (by rw [ByteArray.size_append]; omega)).1, decide_eq_decide]
  have e : (hdS (a : Nat) ++ r).extract 0 12 = hdS (a : Nat) := by
    rw [← hz, ByteArray.extract_append_eq_left rfl]
  rw [e]
  exact ⟨hd_inj ha hb, fun h => by rw [h]⟩
/-- With one of its first 12 bytes turned. -/
theorem sc_turn {a : Nat} (ha : a ≤ 199) (r : ByteArray) (L : List UInt8) (hL : L = (hdS (a : Nat) ++ r).data.toList) (i : Nat) (hi : i < 12) (y : UInt8) :
    scOk ⟨(L.set i (L.getD i 0 ^^^ y)).toArray⟩ (a : Nat) = decide (y = 0) := by
  have hz := hd_size ha
  have hlen : L.length = 12 + r.size := by rw [hL, Array.length_toList]; show (hdS (a : Nat) ++ r).size = _; rw [ByteArray.size_append, hz]
  have hsz : (ByteArray.mk (L.set i (L.getD i 0 ^^^ y)).toArray).size = 12 + r.size := by show (L.set i _).toArray.size = _; simp [hlen]
  rw [(sc_long ha _ (by omega)).1, decide_eq_decide]
  have hH : (hdS (a : Nat)).data.toList = L.take 12 := by
    have e : (hdS (a : Nat) ++ r).data.toList = (hdS (a : Nat)).data.toList ++ r.data.toList := by rw [ByteArray.data_append, Array.toList_append]
    rw [hL, e, List.take_append_of_le_length (by rw [Array.length_toList]; show 12 ≤ (hdS (a : Nat)).size; omega), List.take_of_length_le (by rw [Array.length_toList]; show (hdS (a : Nat)).size ≤ 12; omega)]
  have hX : ((ByteArray.mk (L.set i (L.getD i 0 ^^^ y)).toArray).extract 0 12).data.toList = (L.set i (L.getD i 0 ^^^ y)).take 12 := by
    rw [ByteArray.data_extract, Array.toList_extract]
    simp
  constructor
  · intro h
    have h1 := congrArg (fun b => b.data.toList.getD i 0) h
    simp only [hX, hH] at h1
    have q : ∀ M : List UInt8, (M.take 12).getD i 0 = M.getD i 0 := fun M => by rw [List.getD_eq_getElem?_getD, List.getD_eq_getElem?_getD, List.getElem?_take, if_pos hi]
    have q2 : ∀ z : UInt8, (L.set i z).getD i 0 = z := fun z => by rw [List.getD_eq_getElem?_getD, List.getElem?_set_self (by omega)]; rfl
    rw [q, q, q2] at h1
    have h2 : L.getD i 0 ^^^ y = L.getD i 0 := h1
    have h3 := congrArg (fun z => L.getD i 0 ^^^ z) h2
    simpa [← UInt8.xor_assoc] using h3
  · intro h
    subst h
    have : L.set i (L.getD i 0 ^^^ 0) = L := by
      rw [UInt8.xor_zero, List.getD_eq_getElem?_getD, List.getElem?_eq_getElem (by omega)]
      simp
    apply ByteArray.ext
    apply Array.toList_inj.1
    rw [hX, this, hH]
end Go.Proofs.Ytoocejmimfhniaa

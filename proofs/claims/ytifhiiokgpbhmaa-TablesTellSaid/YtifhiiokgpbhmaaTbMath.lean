/- Tables: their bytes, and what is read of bytes: plain lists, no program. -/
import Derived.Test.YtifhiiokgpbhmaaEntSorted
import Derived.Test.YtifhiiokgpbhmaaSealed
namespace Go.Proofs.Ytifhiiokgpbhmaa
open Go.RowKit
set_option linter.unusedVariables false

/-- The entries' bytes, one behind another. -/
def entsL (l : List EntS) : List UInt8 := l.flatMap putL
def ptabL : List UInt8 := [112, 116, 97, 98]
/-- What stands ahead of them. -/
def tbHead (n : Nat) : List UInt8 := ptabL ++ be 4 n
def tbBody (l : List EntS) : ByteArray := bs (tbHead l.length ++ entsL l)
/-- A table's bytes (P18.1). -/
def tbB (l : List EntS) : ByteArray := sealS (tbBody l)
def tbOk (l : List EntS) : Bool := sortedE l && l.all mayE
/-- What Put tells. -/
def tbS (l : List EntS) : ByteArray := if tbOk l = true then tbB l else ByteArray.empty
def tbE (l : List EntS) : Int := if tbOk l = true then 0 else 2

theorem tbHead_length (n : Nat) : (tbHead n).length = 8 := by unfold tbHead; rw [List.length_append, be_length]; rfl
theorem entsL_cons (x : EntS) (l : List EntS) : entsL (x :: l) = putL x ++ entsL l := by unfold entsL; rw [List.flatMap_cons]
theorem entsL_append (a b : List EntS) : entsL (a ++ b) = entsL a ++ entsL b := by unfold entsL; rw [List.flatMap_append]
theorem entsL_one (x : EntS) : entsL [x] = putL x := by rw [entsL_cons]; show _ ++ [] = _; rw [List.append_nil]
theorem entsL_length : ∀ l : List EntS, (entsL l).length = 24 * l.length
  | [] => rfl
  | x :: l => by rw [entsL_cons, List.length_append, putL_length, entsL_length l, List.length_cons]; omega
theorem entsL_take {l : List EntS} {k : Nat} {x : EntS} (h : l[k]? = some x) : entsL (l.take (k + 1)) = entsL (l.take k) ++ putL x := by rw [ent_take l k x h, entsL_append, entsL_one]
theorem tbBody_size (l : List EntS) : (tbBody l).size = 8 + 24 * l.length := by unfold tbBody; rw [bs_size, List.length_append, tbHead_length, entsL_length]
theorem tbB_size (l : List EntS) : (tbB l).size = 12 + 24 * l.length := by unfold tbB; rw [seal_size, tbBody_size]; omega
theorem tbB_list (l : List EntS) : (tbB l).data.toList = tbHead l.length ++ (entsL l ++ tailS (tbBody l).data.toList) := by
  unfold tbB
  rw [seal_list]
  unfold tbBody
  rw [sl_list, List.append_assoc]
theorem putE_list {x : EntS} (h : mayE x = true) : (putE x).data.toList = putL x := by unfold putE; rw [if_pos h, en_bs_list]
theorem tbOk_iff {l : List EntS} : tbOk l = true ↔ sortedE l = true ∧ ∀ x ∈ l, mayE x = true := by unfold tbOk; rw [Bool.and_eq_true, List.all_eq_true]
theorem tbOk_sorted {l : List EntS} (h : sortedE l = false) : tbOk l = false := by unfold tbOk; rw [h]; rfl
theorem tbOk_may {l : List EntS} {x : EntS} (hx : x ∈ l) (h : mayE x = false) : tbOk l = false := by
  cases e : tbOk l with
  | false => rfl
  | true => rw [(tbOk_iff.1 e).2 x hx] at h; cases h
theorem tb_no {l : List EntS} (h : tbOk l = false) : tbS l = ByteArray.empty ∧ tbE l = 2 := by unfold tbS tbE; rw [h]; exact ⟨rfl, rfl⟩
theorem tb_yes {l : List EntS} (h : tbOk l = true) : tbS l = tbB l ∧ tbE l = 0 := by unfold tbS tbE; rw [h]; exact ⟨rfl, rfl⟩

/-- The bytes of the entry i. -/
def tbPiece (s : ByteArray) (i : Nat) : ByteArray := s.extract (8 + 24 * i) (32 + 24 * i)
/-- The first n entries. -/
def tbGot (s : ByteArray) (n : Nat) : List EntS := (List.range n).map fun i => enG (tbPiece s i)
/-- How many the head says there are. -/
def tbN (s : ByteArray) : Nat := getS (s.extract 4 8)
/-- These are a table's bytes, in the program's words. -/
def tgOk (s : ByteArray) : Bool := decide (8 ≤ s.size ∧ s.extract 0 4 = bs ptabL ∧ tbN s ≤ 89478484 ∧ s.size = 12 + 24 * tbN s ∧ opOk s = true ∧ (∀ i, i < tbN s → enOk (tbPiece s i) = true) ∧ sortedE (tbGot s (tbN s)) = true)
/-- What Get tells. -/
def tgL (s : ByteArray) : List EntS := if tgOk s = true then tbGot s (tbN s) else []
def tgE (s : ByteArray) : Int := if tgOk s = true then 0 else 90
theorem tgOk_iff {s : ByteArray} : tgOk s = true ↔ (8 ≤ s.size ∧ s.extract 0 4 = bs ptabL ∧ tbN s ≤ 89478484 ∧ s.size = 12 + 24 * tbN s ∧ opOk s = true ∧ (∀ i, i < tbN s → enOk (tbPiece s i) = true) ∧ sortedE (tbGot s (tbN s)) = true) := by unfold tgOk; exact decide_eq_true_iff
theorem tg_no {s : ByteArray} (h : tgOk s = false) : tgL s = [] ∧ tgE s = 90 := by unfold tgL tgE; rw [h]; exact ⟨rfl, rfl⟩
theorem tg_yes {s : ByteArray} (h : tgOk s = true) : tgL s = tbGot s (tbN s) ∧ tgE s = 0 := by unfold tgL tgE; rw [h]; exact ⟨rfl, rfl⟩
theorem tbGot_length (s : ByteArray) (n : Nat) : (tbGot s n).length = n := by unfold tbGot; rw [List.length_map, List.length_range]
theorem tbGot_succ (s : ByteArray) (n : Nat) : tbGot s (n + 1) = tbGot s n ++ [enG (tbPiece s n)] := by unfold tbGot; rw [List.range_succ, List.map_append]; rfl
theorem tbGot_at (s : ByteArray) {n i : Nat} (h : i < n) : (tbGot s n)[i]? = some (enG (tbPiece s i)) := by unfold tbGot; rw [List.getElem?_map, List.getElem?_range h]; rfl
theorem tbPiece_list (s : ByteArray) (i : Nat) : (tbPiece s i).data.toList = (s.data.toList.drop (8 + 24 * i)).take 24 := by unfold tbPiece; rw [sl_ext, show 32 + 24 * i - (8 + 24 * i) = 24 by omega]
theorem tbPiece_size {s : ByteArray} {i : Nat} (h : 32 + 24 * i ≤ s.size) : (tbPiece s i).size = 24 := by unfold tbPiece; rw [ByteArray.size_extract]; omega
/-- The entries that are got have the bytes that stand there. -/
theorem got_bytes (s : ByteArray) : ∀ n, (∀ i, i < n → enOk (tbPiece s i) = true) → entsL (tbGot s n) = (s.data.toList.drop 8).take (24 * n)
  | 0, _ => by simp [tbGot, entsL]
  | n + 1, h => by
    obtain ⟨m, e⟩ := en_form (h n (Nat.lt_succ_self n))
    have e2 : putL (enG (tbPiece s n)) = (s.data.toList.drop (8 + 24 * n)).take 24 := by rw [← tbPiece_list, ← putE_list m, e]
    rw [tbGot_succ, entsL_append, entsL_one, got_bytes s n (fun i hi => h i (by omega)), e2, show 24 * (n + 1) = 24 * n + 24 by omega, List.take_add, List.drop_drop]
theorem got_may (s : ByteArray) {n : Nat} (h : ∀ i, i < n → enOk (tbPiece s i) = true) : ∀ x ∈ tbGot s n, mayE x = true := by
  intro x hx
  unfold tbGot at hx
  obtain ⟨i, hi, rfl⟩ := List.mem_map.1 hx
  exact (en_form (h i (List.mem_range.1 hi))).1
theorem un_four (n : Nat) (h : n < 4294967296) : un (be 4 n) = n := by
  have p : (256 : Nat) ^ 4 = 4294967296 := by decide
  rw [un_be, p, Nat.mod_eq_of_lt h]
theorem four_get {s : ByteArray} {l : List UInt8} (h : s.data.toList = l) (hl : l.length = 4) : getS s = un l := by unfold getS; rw [h, List.take_of_length_le (by omega)]
/-- What stands ahead in a table's bytes. -/
theorem tbB_head (l : List EntS) (hn : l.length < 4294967296) : (tbB l).extract 0 4 = bs ptabL ∧ tbN (tbB l) = l.length := by
  have e := tbB_list l
  have h4 : ptabL.length = 4 := rfl
  constructor
  · rw [sl_extbs, e]
    unfold tbHead
    rw [List.drop_zero, List.append_assoc, List.take_left' (by exact h4)]
  · unfold tbN
    rw [four_get (l := be 4 l.length) _ (be_length _ _), un_four _ hn]
    rw [sl_ext, e]
    unfold tbHead
    rw [List.append_assoc, List.drop_left' h4, List.take_left' (be_length 4 l.length)]
theorem tbB_piece {l : List EntS} {i : Nat} {x : EntS} (h : l[i]? = some x) (hm : mayE x = true) : tbPiece (tbB l) i = putE x := by
  have hi : i < l.length := (List.getElem?_eq_some_iff.1 h).1
  have e : (tbPiece (tbB l) i).data.toList = putL x := by
    rw [tbPiece_list, tbB_list, ← List.drop_drop, List.drop_left' (tbHead_length _)]
    have e1 : l = l.take i ++ (x :: l.drop (i + 1)) := by
      have := (List.getElem?_eq_some_iff.1 h).2
      rw [← this, ← List.drop_eq_getElem_cons hi, List.take_append_drop]
    have e2 : entsL l = entsL (l.take i) ++ (putL x ++ entsL (l.drop (i + 1))) := by
      conv => lhs; rw [e1]
      rw [entsL_append, entsL_cons]
    have e3 : (entsL (l.take i)).length = 24 * i := by rw [entsL_length, List.length_take]; omega
    rw [e2, List.append_assoc, List.drop_left' e3, List.append_assoc, List.take_left' (putL_length x)]
  rw [← bs_data (tbPiece (tbB l) i), e, ← putE_list hm, bs_data]
/-- What is put is got (P18.3). -/
theorem tb_back {l : List EntS} (hn : l.length ≤ 89478484) (hx : ∀ x ∈ l, EntOk x) (hok : tbOk l = true) : tgOk (tbB l) = true ∧ tbGot (tbB l) l.length = l ∧ tgL (tbB l) = l := by
  obtain ⟨hs, hm⟩ := tbOk_iff.1 hok
  obtain ⟨h1, h2⟩ := tbB_head l (by omega)
  have hp : ∀ i, i < l.length → enOk (tbPiece (tbB l) i) = true := fun i hi => by
    have hi' := List.getElem?_eq_getElem hi
    have hmem := List.getElem_mem hi
    rw [tbB_piece hi' (hm _ hmem), enOk_put (hx _ hmem), hm _ hmem]
  have hg : tbGot (tbB l) l.length = l := by
    apply List.ext_getElem?
    intro i
    rcases Nat.lt_or_ge i l.length with c | c
    · have hi' := List.getElem?_eq_getElem c
      have hmem := List.getElem_mem c
      rw [tbGot_at _ c, tbB_piece hi' (hm _ hmem), (en_put (hx _ hmem) (hm _ hmem)).2, hi']
    · rw [List.getElem?_eq_none c, List.getElem?_eq_none (by rw [tbGot_length]; exact c)]
  have hok2 : tgOk (tbB l) = true := tgOk_iff.2 ⟨by rw [tbB_size]; omega, h1, by rw [h2]; exact hn, by rw [tbB_size, h2], opOk_seal _, by rw [h2]; exact hp, by rw [h2, hg]; exact hs⟩
  exact ⟨hok2, hg, by rw [(tg_yes hok2).1, h2, hg]⟩
theorem ext_join (s : ByteArray) {k : Nat} (h : k ≤ s.size) : s.extract 0 k ++ s.extract k s.size = s := by
  have e9 : (s.data.toList.drop k).take (s.size - k) = s.data.toList.drop k := List.take_of_length_le (by rw [List.length_drop, sl_size]; exact Nat.le_refl _)
  rw [sl_extbs s 0 k, sl_extbs s k s.size, bs_append, e9, List.drop_zero, Nat.sub_zero, List.take_append_drop, bs_data]
/-- These are a table's bytes, in the document's words. -/
theorem tg_doc {s : ByteArray} (hs : s.size ≤ 1000000) : tgOk s = true ↔ (12 ≤ s.size ∧ (s.size - 12) % 24 = 0 ∧ (∀ i, i < (s.size - 12) / 24 → enOk (tbPiece s i) = true) ∧ tbOk (tbGot s ((s.size - 12) / 24)) = true ∧ tbB (tbGot s ((s.size - 12) / 24)) = s) := by
  constructor
  · intro h
    obtain ⟨h0, h1, h2, h3, h4, h5, h6⟩ := tgOk_iff.1 h
    have hn : (s.size - 12) / 24 = tbN s := by omega
    rw [hn]
    refine ⟨by omega, by omega, h5, tbOk_iff.2 ⟨h6, got_may s h5⟩, ?_⟩
    have hb := got_bytes s _ h5
    have hl := sl_size s
    obtain ⟨h7, h8⟩ := of_decide_eq_true h4
    have e4 : (s.data.toList.drop 4).take 4 = be 4 (tbN s) := by
      have hlen : ((s.data.toList.drop 4).take 4).length = 4 := by rw [List.length_take, List.length_drop]; omega
      have := be_un ((s.data.toList.drop 4).take 4)
      rw [hlen] at this
      rw [← this]
      unfold tbN
      rw [four_get (l := (s.data.toList.drop 4).take 4) (sl_ext s 4 8) hlen]
    have e0 : s.data.toList.take 4 = ptabL := by
      have := congrArg (fun s : ByteArray => s.data.toList) h1
      simp only [sl_ext, sl_list, List.drop_zero] at this
      exact this
    have eb : tbBody (tbGot s (tbN s)) = s.extract 0 (s.size - 4) := by
      rw [sl_extbs, List.drop_zero]
      unfold tbBody tbHead
      have e5 : 4 + 4 + 24 * tbN s = s.size - 4 - 0 := by omega
      rw [tbGot_length, hb, ← e4, ← e0, ← List.take_add, show (8 : Nat) = 4 + 4 from rfl, ← List.take_add, e5]
    have ej := ext_join s (k := s.size - 4) (by omega)
    rw [h8, ← eb] at ej
    exact ej
  · rintro ⟨h0, h1, h2, h3, h4⟩
    generalize hn : (s.size - 12) / 24 = n at *
    obtain ⟨g1, g2⟩ := tbB_head (tbGot s n) (by rw [tbGot_length]; omega)
    rw [h4, tbGot_length] at g2
    rw [h4] at g1
    have g3 := opOk_seal (tbBody (tbGot s n))
    have g4 : sealS (tbBody (tbGot s n)) = s := h4
    rw [g4] at g3
    exact tgOk_iff.2 ⟨by omega, g1, by omega, by omega, g3, by rw [g2]; exact h2, by rw [g2]; exact (tbOk_iff.1 h3).1⟩
theorem tg_no_doc {s : ByteArray} (hs : s.size ≤ 1000000) (h : ¬ (12 ≤ s.size ∧ (s.size - 12) % 24 = 0 ∧ (∀ i, i < (s.size - 12) / 24 → enOk (tbPiece s i) = true) ∧ tbOk (tbGot s ((s.size - 12) / 24)) = true ∧ tbB (tbGot s ((s.size - 12) / 24)) = s)) : tgOk s = false := by
  cases e : tgOk s with
  | false => rfl
  | true => exact absurd ((tg_doc hs).1 e) h
/-- A table of which one byte is another one is none. -/
theorem tg_turned {s t : ByteArray} (h : tgOk s = true) (k : Nat) (hl : s.size = t.size) (ho : ∀ j, j < k ∨ k + 4 ≤ j → s.data.toList[j]? = t.data.toList[j]?) (hne : s ≠ t) : tgOk t = false := by
  cases e : tgOk t with
  | false => rfl
  | true => exact absurd (sealed_near (tgOk_iff.1 h).2.2.2.2.1 (tgOk_iff.1 e).2.2.2.2.1 k hl ho) hne
/-- Nor is one whose length is another one, with the same head. -/
theorem tg_other {s t : ByteArray} (h : tgOk s = true) (hl : s.size ≠ t.size) (he : 8 ≤ t.size → t.extract 4 8 = s.extract 4 8) : tgOk t = false := by
  cases e : tgOk t with
  | false => rfl
  | true =>
    have h1 := tgOk_iff.1 h
    have h2 := tgOk_iff.1 e
    have h3 : tbN t = tbN s := by unfold tbN; rw [he h2.1]
    have h4 := h1.2.2.2.1
    have h5 := h2.2.2.2.1
    omega
theorem tg_cut {s : ByteArray} (h : tgOk s = true) {k : Nat} (hk : k < s.size) : tgOk (s.extract 0 k) = false := by
  refine tg_other h (by rw [ByteArray.size_extract]; omega) fun h8 => ?_
  rw [ByteArray.size_extract] at h8
  have hl := sl_size s
  rw [sl_extbs (s.extract 0 k), sl_extbs s 4 8, sl_ext, List.drop_zero, Nat.sub_zero, List.drop_take, List.take_take]
  congr 2
  omega
theorem tg_more {s x : ByteArray} (h : tgOk s = true) (hx : 0 < x.size) : tgOk (s ++ x) = false := by
  have h0 := (tgOk_iff.1 h).1
  refine tg_other h (by rw [ByteArray.size_append]; omega) fun _ => ?_
  have hl := sl_size s
  rw [sl_extbs (s ++ x), sl_extbs s, sl_append, List.drop_append_of_le_length (by omega), List.take_append_of_le_length (by rw [List.length_drop]; omega)]
end Go.Proofs.Ytifhiiokgpbhmaa
